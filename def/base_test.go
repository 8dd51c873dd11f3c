package def_test

import (
	"fmt"
	"strings"
	"testing"

	"voussoir/api"
	"voussoir/def"
)

// sums is DOC's example.
const sums = `language sums.
sort Exp, Pgm.
subsort Int < Exp.
subsort Exp < Pgm.
value Int.
op plus : Exp "+" Exp -> Exp prec 5 left strict(1, 2).
cell k : List = [$].
start Pgm.
watch k.
rule add : k : [plus(X:Int, Y:Int) | K] => [add(X:Int, Y:Int) | K].
`

// full has something of each kind, as Text writes it.
const full = `language full.
sort A, B.
subsort Int < A.
value Int, A.
op nil : -> A.
op pair : A B -> B.
op loop : "while" A "(" B ")" -> B prec 20 right strict(2, 1).
op minus : "-" A -> A prec 1.
op both : A "" A -> A left.
fun f : -> Int.
fun g : Int A -> A.
let f() = -5.
let g(X:Int, _) = X:Int if eq(f(), "two words"), true.
cell k : List = [$].
cell e : Map = {}.
many t(c : Any = 'x, d : List = [false, 1 | L]).
start B.
watch k.
rule r : k : [_, 'x | K] => [| K]; c@i : {1 -> X:A, 'k -> nil() | M}; new([], {}); new(0); drop@i; drop@j if lt(1, 2), false.
rule s : e : {| M} => {1 -> {}}.
`

// words has the reserved names, with a blank between two.
const words = "language sort subsort value op fun let if start cell many watch rule prec left right strict new drop true false"

func letters(n int) string { return strings.Repeat("a", n) }

func whole(n int) api.Term { return api.Term{Kind: api.KInt, N: n} }

func truth(n int) api.Term { return api.Term{Kind: api.KBool, N: n} }

func str(s string) api.Term { return api.Term{Kind: api.KText, Text: s} }

func id(s string) api.Term { return api.Term{Kind: api.KId, Text: s} }

func variable(name, sort string) api.Term { return api.Term{Kind: api.KVar, Text: name, Sort: sort} }

func app(name string, kids ...api.Term) api.Term {
	return api.Term{Kind: api.KApp, Text: name, Kids: kids}
}

func list(kids ...api.Term) api.Term { return api.Term{Kind: api.KList, Kids: kids} }

func table(kids ...api.Term) api.Term { return api.Term{Kind: api.KMap, Kids: kids} }

// with returns a list or a map with a Rest.
func with(t api.Term, name string) api.Term {
	sort := "List"
	if t.Kind == api.KMap {
		sort = "Map"
	}
	t.Rest = []api.Term{variable(name, sort)}
	return t
}

// nested returns a term in n lists.
func nested(n int, t api.Term) api.Term {
	for range n {
		t = list(t)
	}
	return t
}

// fault returns a fault from its code, line, column and name.
func fault(code api.Errno, line, col int, name string) api.Fault {
	return api.Fault{Code: code, Name: name, Line: line, Col: col}
}

// parsed returns the definition that a string without a fault says. It is new memory at each call.
func parsed(t testing.TB, s string) api.Def {
	t.Helper()
	d, f := def.Parse(s)
	if f != (api.Fault{}) {
		t.Fatalf("%s\n%v", s, f)
	}
	return d
}

// text returns the string of a definition that has one.
func text(t testing.TB, d api.Def) string {
	t.Helper()
	s, e := def.Text(d)
	if e != api.OK {
		t.Fatal(d, e)
	}
	return s
}

func wantFault(t testing.TB, s string, want api.Fault) {
	t.Helper()
	if d, f := def.Parse(s); f != want || !def.Same(d, api.Def{}) {
		t.Errorf("%s\n%v, %v instead of %v", s, d, f, want)
	}
}

func wantTermFault(t testing.TB, s string, want api.Fault) {
	t.Helper()
	if x, f := def.Term(s); f != want || x.Kind != 0 || len(x.Kids) != 0 {
		t.Errorf("%s\n%v, %v instead of %v", s, x, f, want)
	}
}

// numbered returns strings that a format makes of the numbers from 1 to n.
func numbered(n int, format string) []string {
	var all []string
	for i := range n {
		all = append(all, fmt.Sprintf(format, i+1))
	}
	return all
}
