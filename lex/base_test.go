package lex_test

import (
	"slices"
	"strconv"
	"strings"
	"testing"

	"voussoir/api"
	"voussoir/lex"
)

// definitionSigns has the signs of definitions, with a blank between two.
const definitionSigns = "=> -> : ; , . @ | ( ) [ ] { } < = ' _ - $"

func word(s string) api.Token { return api.Token{Kind: api.TokName, Text: s} }

func whole(n int) api.Token { return api.Token{Kind: api.TokInt, N: n} }

func str(s string) api.Token { return api.Token{Kind: api.TokText, Text: s} }

func sign(s string) api.Token { return api.Token{Kind: api.TokSign, Text: s} }

// at returns a token at a place.
func at(line, col int, t api.Token) api.Token {
	t.Line, t.Col = line, col
	return t
}

func letters(n int) string { return strings.Repeat("a", n) }

// signsOf returns the signs of a string, in which a blank stands between two.
func signsOf(s string) []string { return strings.Fields(s) }

// cut returns the tokens of a string that has no fault, with signs as signsOf takes them.
func cut(t testing.TB, s, signs string) []api.Token {
	t.Helper()
	l, f := lex.Lex(s, signsOf(signs))
	if f != (api.Fault{}) {
		t.Fatalf("%q: %v", s, f)
	}
	return l
}

// cutDefinition returns the tokens of a definition that has no fault.
func cutDefinition(t testing.TB, s string) []api.Token {
	t.Helper()
	l, f := lex.Definition(s)
	if f != (api.Fault{}) {
		t.Fatalf("%q: %v", s, f)
	}
	return l
}

// text returns the string of tokens that have one.
func text(t testing.TB, l []api.Token) string {
	t.Helper()
	s, e := lex.Text(l)
	if e != api.OK {
		t.Fatal(l, e)
	}
	return s
}

func wantTokens(t testing.TB, s string, got []api.Token, want ...api.Token) {
	t.Helper()
	if !slices.Equal(got, want) {
		t.Errorf("%q: %v instead of %v", s, got, want)
	}
}

func wantFault(t testing.TB, s string, got []api.Token, f, want api.Fault) {
	t.Helper()
	if f != want || len(got) != 0 {
		t.Errorf("%q: %v, %v instead of %v", s, got, f, want)
	}
}

// wantLexFaults looks whether Lex, with signs as signsOf takes them, finds at a place in strings that no token begins there.
func wantLexFaults(t *testing.T, signs, name string, line, col int, all ...string) {
	t.Helper()
	for _, s := range all {
		l, f := lex.Lex(s, signsOf(signs))
		wantFault(t, s, l, f, api.Fault{Code: api.ErrLex, Name: name, Line: line, Col: col})
	}
}

// numberedSigns returns n different signs.
func numberedSigns(n int) []string {
	var all []string
	for i := range n {
		digits := strings.Split(strconv.FormatInt(int64(i), 3), "")
		for j, digit := range digits {
			digits[j] = map[string]string{"0": "+", "1": "*", "2": "<"}[digit]
		}
		all = append(all, strings.Join(digits, ""))
	}
	return all
}
