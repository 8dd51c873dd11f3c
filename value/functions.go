package value

import (
	"strconv"

	"voussoir/api"
	"voussoir/book"
	"voussoir/chars"
	"voussoir/term"
)

// function calculates a built-in function of plain terms, which are as many as it has arguments, and of their sorts. Its result may share memory with them, and be too large or too deep.
type function func(args []api.Term) (api.Term, api.Errno)

// functions returns the built-in functions by their names. The book is asked when one of them is calculated.
func functions(known *book.Book) map[string]function {
	return map[string]function{
		"add":     arithmetic(func(a, b int) int { return a + b }),
		"sub":     arithmetic(func(a, b int) int { return a - b }),
		"mul":     arithmetic(func(a, b int) int { return a * b }),
		"div":     division(func(quotient, _ int) int { return quotient }),
		"mod":     division(func(_, left int) int { return left }),
		"neg":     total(func(args []api.Term) api.Term { return whole(-args[0].N) }),
		"lt":      comparison(func(a, b int) bool { return a < b }),
		"le":      comparison(func(a, b int) bool { return a <= b }),
		"gt":      comparison(func(a, b int) bool { return a > b }),
		"ge":      comparison(func(a, b int) bool { return a >= b }),
		"eq":      test(func(args []api.Term) bool { return term.Same(args[0], args[1]) }),
		"ne":      test(func(args []api.Term) bool { return !term.Same(args[0], args[1]) }),
		"and":     test(func(args []api.Term) bool { return isTrue(args[0]) && isTrue(args[1]) }),
		"or":      test(func(args []api.Term) bool { return isTrue(args[0]) || isTrue(args[1]) }),
		"not":     test(func(args []api.Term) bool { return !isTrue(args[0]) }),
		"pick":    total(pick),
		"cat":     cat,
		"length":  total(func(args []api.Term) api.Term { return whole(len(args[0].Kids)) }),
		"text":    total(func(args []api.Term) api.Term { return text(strconv.Itoa(args[0].N)) }),
		"join":    total(join),
		"get":     get,
		"put":     put,
		"has":     test(has),
		"del":     total(del),
		"keys":    total(keys),
		"size":    total(func(args []api.Term) api.Term { return whole(len(args[0].Kids) / 2) }),
		"is":      sortTest(known),
		"isvalue": test(func(args []api.Term) bool { return isValue(known, args[0]) }),
	}
}

// total is a function that has a result of all its arguments.
func total(calculate func(args []api.Term) api.Term) function {
	return func(args []api.Term) (api.Term, api.Errno) { return calculate(args), api.OK }
}

// test is a function whose result is a bool.
func test(holds func(args []api.Term) bool) function {
	return total(func(args []api.Term) api.Term { return truth(holds(args)) })
}

func comparison(holds func(a, b int) bool) function {
	return test(func(args []api.Term) bool { return holds(args[0].N, args[1].N) })
}

func arithmetic(calculate func(a, b int) int) function {
	return func(args []api.Term) (api.Term, api.Errno) {
		n := calculate(args[0].N, args[1].N)
		if n < -api.MaxInt || n > api.MaxInt {
			return api.Term{}, api.ErrRange
		}
		return whole(n), api.OK
	}
}

// division is one of two results of a division that rounds down, not to 0 as Go's does.
func division(which func(quotient, left int) int) function {
	return func(args []api.Term) (api.Term, api.Errno) {
		a, b := args[0].N, args[1].N
		if b == 0 {
			return api.Term{}, api.ErrZero
		}
		quotient, left := a/b, a%b
		if left != 0 && (left < 0) != (b < 0) {
			quotient, left = quotient-1, left+b
		}
		return whole(which(quotient, left)), api.OK
	}
}

func pick(args []api.Term) api.Term {
	if isTrue(args[0]) {
		return args[1]
	}
	return args[2]
}

func cat(args []api.Term) (api.Term, api.Errno) {
	s := args[0].Text + args[1].Text
	if len(s) > chars.MaxString {
		return api.Term{}, api.ErrRange
	}
	return text(s), api.OK
}

// sortTest is the function is.
func sortTest(known *book.Book) function {
	return func(args []api.Term) (api.Term, api.Errno) {
		high := args[1].Text
		if !known.Exists(high) {
			return api.Term{}, api.ErrName
		}
		sort, ok := known.Sort(args[0])
		return truth(ok && known.AtMost(sort, high)), api.OK
	}
}

func isValue(known *book.Book, t api.Term) bool {
	sort, ok := known.Sort(t)
	return ok && known.Value(sort)
}

func isTrue(t api.Term) bool { return t.N == 1 }

func whole(n int) api.Term { return api.Term{Kind: api.KInt, N: n} }

func text(s string) api.Term { return api.Term{Kind: api.KText, Text: s} }

func truth(holds bool) api.Term {
	if holds {
		return api.Term{Kind: api.KBool, N: 1}
	}
	return api.Term{Kind: api.KBool}
}
