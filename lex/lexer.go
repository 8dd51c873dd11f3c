package lex

import (
	"strconv"
	"strings"

	"voussoir/api"
	"voussoir/chars"
)

// lexer goes through a string.
type lexer struct {
	signs     map[string]bool
	left      string // what is still to be gone through
	line, col int    // where that begins
}

func newLexer(s string, signs []string) *lexer {
	l := &lexer{signs: map[string]bool{}, left: s, line: 1, col: 1}
	for _, sign := range signs {
		l.signs[sign] = true
	}
	return l
}

// tokens returns all tokens, or the fault at the first byte with which none begins.
func (l *lexer) tokens() ([]api.Token, api.Fault) {
	var all []api.Token
	for l.skip(); l.left != ""; l.skip() {
		t, length := l.token()
		if length == 0 {
			return nil, api.Fault{Code: api.ErrLex, Name: l.left[:1], Line: l.line, Col: l.col}
		}
		t.Line, t.Col = l.line, l.col
		all = append(all, t)
		l.pass(length)
	}
	return all, api.Fault{}
}

// skip passes blanks and comments.
func (l *lexer) skip() {
	for n := gap(l.left); n > 0; n = gap(l.left) {
		l.pass(n)
	}
}

// gap returns how many bytes a comment, or blanks, take at the beginning of a string.
func gap(s string) int {
	if strings.HasPrefix(s, "//") {
		return len(chars.Run(s, func(c byte) bool { return c != '\n' }))
	}
	return len(chars.Run(s, func(c byte) bool { return c == ' ' || c == '\t' || c == '\n' || c == '\r' }))
}

func (l *lexer) pass(n int) {
	for i := range n {
		l.col++
		if l.left[i] == '\n' {
			l.line, l.col = l.line+1, 1
		}
	}
	l.left = l.left[n:]
}

// token returns the token with which what is left begins, without its place, and its length: 0, if there is none.
func (l *lexer) token() (api.Token, int) {
	first := l.left[0]
	switch {
	case chars.IsLetter(first):
		return name(l.left)
	case chars.IsDigit(first):
		return integer(l.left)
	case first == '"':
		return quoted(l.left)
	}
	return l.sign()
}

func name(s string) (api.Token, int) {
	text := chars.Run(s, chars.IsNameByte)
	if len(text) > api.MaxName {
		return api.Token{}, 0
	}
	return api.Token{Kind: api.TokName, Text: text}, len(text)
}

func integer(s string) (api.Token, int) {
	digits := chars.Run(s, chars.IsDigit)
	n, err := strconv.Atoi(digits)
	if err != nil || n > api.MaxInt || len(digits) != len(chars.Run(s, chars.IsNameByte)) {
		return api.Token{}, 0
	}
	return api.Token{Kind: api.TokInt, N: n}, len(digits)
}

func quoted(s string) (api.Token, int) {
	text := chars.Run(s[1:], func(c byte) bool { return c != '"' })
	length := len(text) + 2
	if length > len(s) || !chars.IsString(text) {
		return api.Token{}, 0
	}
	return api.Token{Kind: api.TokText, Text: text}, length
}

// sign looks for the longest sign first.
func (l *lexer) sign() (api.Token, int) {
	for n := min(len(l.left), chars.MaxSign); n > 0; n-- {
		if text := l.left[:n]; l.signs[text] {
			return api.Token{Kind: api.TokSign, Text: text}, n
		}
	}
	return api.Token{}, 0
}
