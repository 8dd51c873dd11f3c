package def

import (
	"strconv"
	"strings"

	"voussoir/api"
	"voussoir/lex"
)

// reader goes through the tokens of a string. What cannot go on is raised as an api.Fault, at the next token.
type reader struct {
	left []api.Token // what is still to be read
	end  api.Fault   // that of a string that ends too early
}

// read returns what the whole of a string says, or its first fault.
func read[T any](s string, whole func(r *reader) T) (said T, fault api.Fault) {
	tokens, fault := lex.Definition(s)
	if fault.Code != api.OK {
		return said, fault
	}
	defer func() {
		switch raised := recover().(type) {
		case nil:
		case api.Fault:
			var none T
			said, fault = none, raised
		default:
			panic(raised)
		}
	}()
	r := reader{left: tokens, end: endOf(s)}
	said = whole(&r)
	if len(r.left) > 0 {
		r.fail(api.ErrSyntax)
	}
	return said, api.Fault{}
}

// endOf returns the fault that a string ends too early.
func endOf(s string) api.Fault {
	lastLine := s[strings.LastIndexByte(s, '\n')+1:]
	return api.Fault{Code: api.ErrEnd, Line: 1 + strings.Count(s, "\n"), Col: 1 + len(lastLine)}
}

// fail raises a fault at the next token.
func (r *reader) fail(code api.Errno) {
	t := r.next()
	name := t.Text
	if t.Kind == api.TokInt {
		name = strconv.Itoa(t.N)
	}
	panic(api.Fault{Code: code, Name: name, Line: t.Line, Col: t.Col})
}

// failLimit raises that there is too much, at a token.
func failLimit(t api.Token) {
	panic(api.Fault{Code: api.ErrLimit, Line: t.Line, Col: t.Col})
}

// room raises that there is too much, at the next token, unless there may be one more than n.
func (r *reader) room(n, most int) {
	if n >= most {
		failLimit(r.next())
	}
}

// next returns the next token, and leaves it: there has to be one.
func (r *reader) next() api.Token {
	if len(r.left) == 0 {
		panic(r.end)
	}
	return r.left[0]
}

func (r *reader) take() api.Token {
	t := r.next()
	r.left = r.left[1:]
	return t
}

func (r *reader) isSign(sign string) bool {
	t := r.next()
	return t.Kind == api.TokSign && t.Text == sign
}

func (r *reader) isWord(word string) bool {
	t := r.next()
	return t.Kind == api.TokName && t.Text == word
}

// isName reports whether a name follows.
func (r *reader) isName() bool {
	t := r.next()
	return t.Kind == api.TokName && !isReserved(t.Text)
}

// want raises a fault unless the next token is as it has to be.
func (r *reader) want(is bool) {
	if !is {
		r.fail(api.ErrSyntax)
	}
}

// takeSign takes the next token if it is a sign, and reports whether it is.
func (r *reader) takeSign(sign string) bool {
	is := r.isSign(sign)
	if is {
		r.take()
	}
	return is
}

func (r *reader) sign(sign string) { r.want(r.takeSign(sign)) }

func (r *reader) word(word string) {
	r.want(r.isWord(word))
	r.take()
}

func (r *reader) name() string {
	r.want(r.isName())
	return r.take().Text
}

// integer returns an integer that is to be from 1 to most.
func (r *reader) integer(most int) int {
	t := r.next()
	r.want(t.Kind == api.TokInt)
	if t.N < 1 || t.N > most {
		r.fail(api.ErrRange)
	}
	return r.take().N
}

// between returns elements, at least one, between which a sign stands. Each is read by a function that is told how many there are before it.
func between[T any](r *reader, sign string, element func(before int) T) []T {
	all := []T{element(0)}
	for r.takeSign(sign) {
		all = append(all, element(len(all)))
	}
	return all
}
