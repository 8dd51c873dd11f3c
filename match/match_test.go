package match_test

import (
	"slices"
	"strings"
	"testing"

	"voussoir/api"
	"voussoir/match"
)

// wantMatches matches a pattern with a term and a substitution, in base's signature.
func wantMatches(t *testing.T, p, x, u string, want ...string) {
	t.Helper()
	if got := shownAll(t, matches(t, read(p), read(x), subst(u))); !slices.Equal(got, want) {
		t.Errorf("%s with %s, %s:\n%s\nnot\n%s", p, x, u, strings.Join(got, "\n"), strings.Join(want, "\n"))
	}
}

// P4.2: KInt, KBool, KText, KId
func TestConstants(t *testing.T) {
	all := []string{"1", "-1", "0", "true", "false", "\"a\"", "\"\"", "'a", "'b", "[]", "{}", "nil()"}
	for _, p := range all {
		for _, x := range all {
			if p == x {
				wantMatches(t, p, x, "", "")
				wantMatches(t, p, x, "X = 1", "X = 1")
			} else {
				wantMatches(t, p, x, "")
			}
		}
	}
}

// P4.2: a variable
func TestVariables(t *testing.T) {
	for _, x := range []struct{ sort, fit, other string }{
		{"Int", "1", "'a"}, {"Bool", "true", "1"}, {"Text", "\"a\"", "'a"}, {"Id", "'a", "\"a\""}, {"List", "[1, [2]]", "{}"}, {"Map", "{1 -> 2}", "[]"},
		{"Exp", "1", "true"}, {"Exp", "plus(1, 2)", "nil()"}, {"Pgm", "'a", "[]"}, {"Pgm", "plus(1, 2)", "box(1)"}, {"Pgm", "nil()", "pair(1, 2)"}, {"Alone", "box(1)", "nil()"}, {"Int", "-5", "plus(1, 2)"},
	} {
		wantMatches(t, "X:"+x.sort, x.fit, "", "X = "+x.fit)
		wantMatches(t, "X:"+x.sort, x.other, "")
		wantMatches(t, "X:Any", x.other, "", "X = "+x.other)
		wantMatches(t, "_", x.other, "", "")
	}
	wantMatches(t, "[_, _, X:Int, _]", "[1, 2, 3, 1]", "", "X = 3")
	wantMatches(t, "[X:Any, X:Any]", "[[1], [1]]", "", "X = [1]")
	wantMatches(t, "[X:Any, X:Any]", "[[1], [2]]", "")
	wantMatches(t, "plus(X:Int, plus(X:Int, Y:Exp))", "plus(1, plus(1, 'a))", "", "X = 1; Y = 'a")
	wantMatches(t, "plus(X:Int, plus(X:Int, Y:Exp))", "plus(1, plus(2, 'a))", "")
}

// P4.2: a variable that has a term in the substitution
func TestGiven(t *testing.T) {
	wantMatches(t, "X:Int", "1", "X = 1", "X = 1")
	wantMatches(t, "X:Int", "1", "X = 2")
	wantMatches(t, "X:Int", "1", "X = 'a")
	wantMatches(t, "X:Int", "'a", "X = 'a")
	wantMatches(t, "X:Int", "1", "A = [2]; Y = 'a", "A = [2]; X = 1; Y = 'a")
	wantMatches(t, "[X:Int, Y:Int]", "[1, 2]", "B = 0; X = 1; XX = 0; Z = 0", "B = 0; X = 1; XX = 0; Y = 2; Z = 0")
	wantMatches(t, "1", "2", "X = 1")
	wantMatches(t, "[1 | L]", "[1, 2]", "L = [2]", "L = [2]")
	wantMatches(t, "[1 | L]", "[1, 2]", "L = [3]")
	wantMatches(t, "[1 | L]", "[1, 2]", "L = 2")
	wantMatches(t, "{1 -> X:Int | M}", "{1 -> 2, 3 -> 4}", "M = {3 -> 4}", "M = {3 -> 4}; X = 2")
	wantMatches(t, "{1 -> X:Int | M}", "{1 -> 2, 3 -> 4}", "M = {}")
	wantMatches(t, "{K:Id -> X:Int | M}", "{'a -> 1, 'b -> 2}", "K = 'b", "K = 'b; M = {'a -> 1}; X = 2")
	wantMatches(t, "{K:Id -> X:Int | M}", "{'a -> 1, 'b -> 2}", "K = 'c")
	wantMatches(t, "{K:Id -> X:Int | M}", "{'a -> 1, 'b -> 2}", "X = 2", "K = 'b; M = {'a -> 1}; X = 2")
	wantMatches(t, "{K:Any -> X:Int | M}", "{'a -> 1}", "K = ['a]")
}

// P4.2, P4.3: a key that is a variable with a term stands for it, whatever its sort is; elsewhere the sort matters.
func TestGivenKeys(t *testing.T) {
	for _, sort := range []string{"Id", "Int", "Exp", "Alone", "Map", "Any"} {
		wantMatches(t, "{K:"+sort+" -> 1}", "{'a -> 1}", "K = 'a", "K = 'a")
	}
	wantMatches(t, "{K:Id -> X:Int | M}", "{1 -> 1, 'a -> 2}", "K = 1", "K = 1; M = {'a -> 2}; X = 1")
	wantMatches(t, "{K:Int -> 1}", "{'b -> 1}", "K = 'a")
	wantMatches(t, "{K:Int -> 1}", "{1 -> 1}", "K = 'a")
	wantMatches(t, "{K:Int -> 1}", "{'a -> 2}", "K = 'a")
	wantMatches(t, "{K:Int -> 1}", "{'a -> 1, 'b -> 1}", "K = 'a")
	wantMatches(t, "{K:Int -> 1}", "{'a -> 1}", "J = 'a")
	// an entry is taken once, also one that is given
	wantMatches(t, "{K:Int -> _, 'a -> _ | M}", "{'a -> 1, 'b -> 1}", "K = 'a")
	wantMatches(t, "{K:Int -> _, K:Int -> _ | M}", "{'a -> 1, 'b -> 1}", "K = 'a")
	wantMatches(t, "{K:Int -> _, J:Id -> _}", "{'a -> 1, 'b -> 1}", "K = 'a", "J = 'b; K = 'a")
	wantMatches(t, "{J:Id -> _, K:Int -> _}", "{'a -> 1, 'b -> 1}", "K = 'a", "J = 'b; K = 'a")
	// in each of two maps, and in the values of another one
	wantMatches(t, "[{K:Int -> X:Int | M}, {K:Int -> Y:Int | M}]", "[{'a -> 1}, {'a -> 2}]", "K = 'a", "K = 'a; M = {}; X = 1; Y = 2")
	wantMatches(t, "{J:Any -> {K:Int -> X:Int} | M}", "{1 -> {'a -> 1}, 2 -> {'a -> 2}, 3 -> {'b -> 3}}", "K = 'a",
		"J = 1; K = 'a; M = {2 -> {'a -> 2}, 3 -> {'b -> 3}}; X = 1", "J = 2; K = 'a; M = {1 -> {'a -> 1}, 3 -> {'b -> 3}}; X = 2")
	wantMatches(t, "{K:Int -> K:Int}", "{'a -> 'a}", "K = 'a")
	wantMatches(t, "[{K:Int -> 1}, K:Int]", "[{'a -> 1}, 'a]", "K = 'a")
	wantMatches(t, "[K:Int, {K:Int -> 1}]", "['a, {'a -> 1}]", "K = 'a")
	wantMatches(t, "[K:Int, {K:Int -> 1}]", "['a, {'a -> 1}]", "")
	wantMatches(t, "{K:Int -> 1}", "{'a -> 1}", "")
}

// P4.2: KApp, KList
func TestApplicationsAndLists(t *testing.T) {
	wantMatches(t, "plus(X:Int, Y:Exp)", "plus(1, plus(2, 3))", "", "X = 1; Y = plus(2, 3)")
	wantMatches(t, "plus(X:Int, Y:Exp)", "plus('a, 1)", "")
	wantMatches(t, "plus(X:Exp, Y:Exp)", "pair(1, 2)", "")
	wantMatches(t, "plus(X:Pgm, 2)", "plus(1, 2)", "", "X = 1")
	wantMatches(t, "nil()", "nil()", "", "")
	wantMatches(t, "nil()", "1", "")
	wantMatches(t, "[X:Int | L]", "[1, 2]", "", "L = [2]; X = 1")
	wantMatches(t, "[X:Int | L]", "[1]", "", "L = []; X = 1")
	wantMatches(t, "[X:Int | L]", "[]", "")
	wantMatches(t, "[|L]", "[1, true]", "", "L = [1, true]")
	wantMatches(t, "[|L]", "[]", "", "L = []")
	wantMatches(t, "[X:Int]", "[1, 2]", "")
	wantMatches(t, "[X:Int, Y:Int]", "[1]", "")
	wantMatches(t, "[[1 | L], [2 | L]]", "[[1, 0], [2, 0]]", "", "L = [0]")
	wantMatches(t, "[[1 | L], [2 | L]]", "[[1, 0], [2]]", "")
	wantMatches(t, "[L:List | L]", "[[1, 2], 1, 2]", "", "L = [1, 2]")
	wantMatches(t, "[L:List | L]", "[[1, 2], 1]", "")
	wantMatches(t, "[]", "{}", "")
	wantMatches(t, "[|L]", "{}", "")
}

// P4.2: KMap, with keys that are no variables
func TestMaps(t *testing.T) {
	wantMatches(t, "{}", "{}", "", "")
	wantMatches(t, "{}", "{1 -> 2}", "")
	wantMatches(t, "{|M}", "{}", "", "M = {}")
	wantMatches(t, "{|M}", "{1 -> 2, 'a -> 3}", "", "M = {1 -> 2, 'a -> 3}")
	wantMatches(t, "{1 -> X:Int}", "{1 -> 2}", "", "X = 2")
	wantMatches(t, "{1 -> X:Int}", "{1 -> 'a}", "")
	wantMatches(t, "{1 -> X:Int}", "{2 -> 1}", "")
	wantMatches(t, "{1 -> X:Int}", "{'a -> 1}", "")
	wantMatches(t, "{\"a\" -> X:Int}", "{'a -> 1}", "")
	wantMatches(t, "{1 -> X:Int}", "{1 -> 1, 2 -> 2}", "")
	wantMatches(t, "{1 -> X:Int, 2 -> Y:Int}", "{1 -> 1}", "")
	wantMatches(t, "{'b -> X:Int, 1 -> Y:Int | M}", "{1 -> 4, 2 -> 5, \"a\" -> 6, 'b -> 7}", "", "M = {2 -> 5, \"a\" -> 6}; X = 7; Y = 4")
	wantMatches(t, "{1 -> X:Int, 1 -> Y:Int | M}", "{1 -> 4, 2 -> 5}", "")
	wantMatches(t, "{1 -> {2 -> X:Any}}", "{1 -> {2 -> [3]}}", "", "X = [3]")
	wantMatches(t, "[{1 -> _ | M}, {2 -> _ | M}]", "[{1 -> 0, 3 -> 4}, {2 -> 5, 3 -> 4}]", "", "M = {3 -> 4}")
	wantMatches(t, "[{1 -> _ | M}, {2 -> _ | M}]", "[{1 -> 0, 3 -> 4}, {2 -> 5, 3 -> 5}]", "")
	wantMatches(t, "{|M}", "[]", "")
}

// P4.2: KMap, with keys that are variables
func TestMapChoices(t *testing.T) {
	wantMatches(t, "{K:Id -> V:Int | M}", "{'a -> 1, 'b -> 2}", "", "K = 'a; M = {'b -> 2}; V = 1", "K = 'b; M = {'a -> 1}; V = 2")
	wantMatches(t, "{K:Any -> V:Int | M}", "{-1 -> 0, 3 -> 'x, \"a\" -> 1, 'a -> 2}", "",
		"K = -1; M = {3 -> 'x, \"a\" -> 1, 'a -> 2}; V = 0", "K = \"a\"; M = {-1 -> 0, 3 -> 'x, 'a -> 2}; V = 1", "K = 'a; M = {-1 -> 0, 3 -> 'x, \"a\" -> 1}; V = 2")
	wantMatches(t, "{K:Exp -> _}", "{1 -> 0}", "", "K = 1")
	wantMatches(t, "{K:Text -> _}", "{1 -> 0}", "")
	wantMatches(t, "{K:Id -> _}", "{'a -> 1, 'b -> 2}", "")
	wantMatches(t, "{K:Any -> _, J:Any -> _}", "{1 -> 0, 2 -> 0}", "", "J = 2; K = 1", "J = 1; K = 2")
	wantMatches(t, "{J:Any -> _, K:Any -> _ | M}", "{1 -> 0, 2 -> 0, 3 -> 0}", "",
		"J = 1; K = 2; M = {3 -> 0}", "J = 1; K = 3; M = {2 -> 0}", "J = 2; K = 1; M = {3 -> 0}", "J = 2; K = 3; M = {1 -> 0}", "J = 3; K = 1; M = {2 -> 0}", "J = 3; K = 2; M = {1 -> 0}")
	// an entry is taken once
	wantMatches(t, "{K:Any -> _, 1 -> _ | M}", "{1 -> 0, 2 -> 0}", "", "K = 2; M = {}")
	wantMatches(t, "{1 -> _, K:Any -> _ | M}", "{1 -> 0, 2 -> 0}", "", "K = 2; M = {}")
	wantMatches(t, "{K:Any -> _, K:Any -> _ | M}", "{1 -> 0, 2 -> 0}", "")
	// a key that gets its term before
	wantMatches(t, "[K:Any, {K:Any -> V:Any | M}]", "[2, {1 -> 0, 2 -> 3}]", "", "K = 2; M = {1 -> 0}; V = 3")
	wantMatches(t, "[K:Any, {K:Any -> V:Any | M}]", "[3, {1 -> 0, 2 -> 3}]", "")
	wantMatches(t, "[K:Any, {K:Any -> V:Any | M}]", "[[], {1 -> 0, 2 -> 3}]", "")
	wantMatches(t, "[{K:Any -> V:Any | M}, K:Any]", "[{1 -> 0, 2 -> 3}, 2]", "", "K = 2; M = {1 -> 0}; V = 3")
	wantMatches(t, "{K:Any -> J:Any, J:Any -> V:Any | M}", "{1 -> 2, 2 -> 1, 3 -> 1}", "", "J = 2; K = 1; M = {3 -> 1}; V = 1", "J = 1; K = 2; M = {3 -> 1}; V = 2", "J = 1; K = 3; M = {2 -> 1}; V = 2")
	wantMatches(t, "{K:Any -> K:Any | M}", "{1 -> 2, 2 -> 2, 3 -> 1}", "", "K = 2; M = {1 -> 2, 3 -> 1}")
	// choices in values, and in both of two maps
	wantMatches(t, "{K:Any -> {J:Any -> _ | N} | M}", "{1 -> {5 -> 0, 6 -> 0}, 2 -> {7 -> 0}}", "",
		"J = 5; K = 1; M = {2 -> {7 -> 0}}; N = {6 -> 0}", "J = 6; K = 1; M = {2 -> {7 -> 0}}; N = {5 -> 0}", "J = 7; K = 2; M = {1 -> {5 -> 0, 6 -> 0}}; N = {}")
	wantMatches(t, "[{K:Any -> _ | M}, {J:Any -> _ | M}]", "[{1 -> 0, 2 -> 0}, {2 -> 0, 3 -> 0}]", "", "J = 3; K = 1; M = {2 -> 0}")
	wantMatches(t, "[{K:Any -> X:Int | M}, {K:Any -> Y:Int | N}]", "[{1 -> 0, 2 -> 1}, {2 -> 2, 3 -> 3}]", "", "K = 2; M = {1 -> 0}; N = {3 -> 3}; X = 1; Y = 2")
}

// wantErrors looks at Match and First, which together with an error return nothing else.
func wantErrors(t *testing.T, s api.Sig, p, x api.Term, u api.Subst, want api.Errno) {
	t.Helper()
	if all, e := match.Match(s, p, x, u); e != want || len(all) != 0 {
		t.Error("Match", p, x, u, "gives", all, e, "not", want)
	}
	if first, e := match.First(s, p, x, u); e != want || len(first) != 0 {
		t.Error("First", p, x, u, "gives", first, e, "not", want)
	}
}

// P4.2, P4.3: ErrArg comes before all others.
func TestMatchArguments(t *testing.T) {
	tooMany, big := read("{A:Any -> _, B:Any -> _}"), numbered(40, zero)
	for _, s := range invalid() {
		wantErrors(t, s, whole(1), whole(1), nil, api.ErrArg)
	}
	for _, p := range noPatterns() {
		wantErrors(t, base(), p, whole(1), nil, api.ErrArg)
	}
	for _, u := range notValid() {
		wantErrors(t, base(), whole(1), whole(2), u, api.ErrArg)
		wantErrors(t, base(), tooMany, big, u, api.ErrArg)
	}
	for _, x := range append(reads("X:Int", "_", "[|L]", "add(1, 2)", "plus(1, true)", "{2 -> 0, 1 -> 0}", "{true -> 0}", "nothing()"), api.Term{}, nested(api.MaxNest, whole(1))) {
		wantErrors(t, base(), variable("X", "Any"), x, nil, api.ErrArg)
	}
}

// keys returns the string of a map of n entries.
func keys(t *testing.T, n int) string { return text(t, numbered(n, zero)) }

// copies returns the string of a map of n entries with the same value.
func copies(t *testing.T, n int, value string) string {
	return text(t, numbered(n, func(int) api.Term { return read(value) }))
}

// P4.2, P4.3: up to 1,000 after each part
func TestWithinLimit(t *testing.T) {
	one := "[" + keys(t, 12) + ", 3, 4]"
	for _, x := range []struct {
		p, t string
		want int
	}{
		{"[{A:Any -> _ | M}, {B:Any -> _ | N}]", "[" + keys(t, 40) + ", " + keys(t, 25) + "]", 1000},
		{"[{A:Any -> _ | M}, {B:Any -> _ | N}, A:Any, B:Any]", "[" + keys(t, 40) + ", " + keys(t, 25) + ", 39, 24]", 1},
		{"{A:Any -> _, B:Any -> _ | M}", keys(t, 32), 32 * 31},
		{"{A:Any -> _ | M}", keys(t, 999), 999},
		// there are 132 choices in one: it is not reached, or they count for each way by itself
		{"[1, {A:Any -> _, B:Any -> _ | M}]", "[2, " + keys(t, 40) + "]", 0},
		{"{0 -> 1, A:Any -> _, B:Any -> _ | M}", keys(t, 40), 0},
		{"{K:Any -> [{A:Int -> _, B:Int -> _ | M}, A:Int, B:Int] | N}", copies(t, 10, one), 10},
		{"[{K:Any -> _ | N}, {1 -> [{A:Int -> _, B:Int -> _ | M}, A:Int, B:Int]}]", "[" + keys(t, 10) + ", {1 -> " + one + "}]", 10},
		// a key counts together with its value
		{"{A:Any -> 0, B:Any -> 1 | M}", "{-1 -> 1, " + keys(t, 40)[1:], 40},
	} {
		if n := len(matches(t, read(x.p), read(x.t), nil)); n != x.want {
			t.Error(x.p, x.t, n)
		}
	}
}

// P4.2, P4.3
func TestBeyondLimit(t *testing.T) {
	one := "[" + keys(t, 12) + ", 3, 4]"
	for _, x := range []struct{ p, t string }{
		{"[{A:Any -> _ | M}, {B:Any -> _ | N}]", "[" + keys(t, 77) + ", " + keys(t, 13) + "]"}, // 1,001
		{"{A:Any -> _, B:Any -> _ | M}", keys(t, 33)},
		{"{A:Any -> _, B:Any -> _ | M}", keys(t, 999)},
		// what comes later does not match, or leaves few
		{"{A:Any -> _, B:Any -> _}", keys(t, 33)},
		{"{A:Any -> _, B:Any -> _, A:Any -> _ | M}", keys(t, 33)},
		{"[{A:Any -> _, B:Any -> _ | M}, 1]", "[" + keys(t, 33) + ", 2]"},
		{"pair({A:Any -> _, B:Any -> _ | M}, [A:Any, B:Any])", "pair(" + keys(t, 33) + ", [1, 2])"},
		// in a value, and of all values together
		{"{1 -> [{A:Any -> _, B:Any -> _ | M}, 1]}", "{1 -> [" + keys(t, 33) + ", 2]}"},
		{"{1 -> {A:Any -> _, B:Any -> _ | M}}", "{1 -> " + keys(t, 33) + "}"},
		{"{K:Any -> [{A:Int -> _, B:Int -> _ | M}, _, _] | N}", copies(t, 10, one)},
		{"[{K:Any -> _ | N}, {A:Int -> _, B:Int -> _ | M}, A:Int, B:Int]", "[" + keys(t, 10) + ", " + one[1:]},
	} {
		wantErrors(t, base(), read(x.p), read(x.t), nil, api.ErrLimit)
	}
	wantErrors(t, base(), read("{A:Any -> _, B:Any -> _, C:Any -> _ | M}"), numbered(40, zero), subst("M = {}"), api.ErrLimit)
	if n := len(matches(t, read("{A:Any -> _, B:Any -> _ | M}"), numbered(40, zero), subst("A = 7"))); n != 39 {
		t.Error(n)
	}
}

// Rule 3: no argument is changed, and no result shares memory with an argument, or with another part of it.
func TestMatchMemory(t *testing.T) {
	p, x := read("pair([X:Any, Y:Any | L], {K:Any -> Z:Any | M})"), read("pair([[1], [2], [3]], {1 -> [4], 2 -> [5]})")
	u := subst("A = [6]; X = [1]")
	args := func() string { return text(t, p) + text(t, x) + shown(t, u) }
	before := args()
	all := matches(t, p, x, u)
	want := shownAll(t, all)
	if len(all) != 2 || args() != before {
		t.Fatal(want, args())
	}
	spoilSubst(all[0])
	if shown(t, all[1]) != want[1] || args() != before {
		t.Error("a result shares memory:", shown(t, all[1]), args())
	}
	first, _ := match.First(base(), p, x, u)
	again := matches(t, p, x, u)
	spoil([]api.Term{p, x})
	spoilSubst(u)
	if shown(t, first) != want[0] || !slices.Equal(shownAll(t, again), want) {
		t.Error("arguments are kept:", shown(t, first), shownAll(t, again))
	}
}

// Rule 3: parts of one result share no memory, even if those of the term do.
func TestMatchPartsOfOne(t *testing.T) {
	shared := read("[1]")
	u := matches(t, read("[X:Any, Y:Any | L]"), list(shared, shared, shared), nil)[0]
	u[1].Term.Kids[0] = whole(7)
	if got := shown(t, u); got != "L = [[1]]; X = [7]; Y = [1]" {
		t.Error(got)
	}
}

// Rule 1: patterns and terms of the greatest sizes
func TestLargeMatch(t *testing.T) {
	deep := matches(t, nested(api.MaxNest-1, variable("X", "Any")), nested(api.MaxNest-1, whole(1)), nil)
	if got := shownAll(t, deep); len(got) != 1 || got[0] != "X = 1" {
		t.Error(got)
	}
	names := func(i int) api.Term { return variable("X"+text(t, whole(i)), "Int") }
	wide := matches(t, list(many(api.MaxSize-1, names)...), list(many(api.MaxSize-1, whole)...), nil)
	if len(wide) != 1 || len(wide[0]) != api.MaxSize-1 || !match.Valid(base(), wide[0]) {
		t.Error(len(wide))
	}
	entries := matches(t, numbered(999, names), numbered(999, whole), nil)
	if len(entries) != 1 || len(entries[0]) != 999 {
		t.Error(len(entries))
	}
}
