package match_test

import (
	"testing"

	"voussoir/api"
	"voussoir/match"
	"voussoir/term"
)

// wantPut puts a substitution in, in base's signature.
func wantPut(t *testing.T, x, u, want string) {
	t.Helper()
	if got := text(t, put(t, read(x), subst(u))); got != want {
		t.Errorf("%s with %s: %s, not %s", x, u, got, want)
	}
}

// P4.4
func TestPut(t *testing.T) {
	for _, x := range []string{"1", "true", "\"a\"", "'a", "[]", "{}", "nil()", "_", "$", "[$, _]", "X:Int", "[X:Int | L]", "{X:Int -> _ | M}", "plus(X:Int, 1)", "len([| L])", "X:Any", "[X:Int, X:Bool]"} {
		wantPut(t, x, "", x)
		wantPut(t, x, "Y = 1; Z = [2]", x)
	}
	wantPut(t, "X:Int", "X = 1", "1")
	wantPut(t, "plus(X:Int, plus(X:Exp, Y:Id))", "X = 1; Y = 'a", "plus(1, plus(1, 'a))")
	wantPut(t, "plus(X:Int, plus(Z:Exp, Y:Id))", "X = 1", "plus(1, plus(Z:Exp, Y:Id))")
	wantPut(t, "add(X:Int, len(L:List))", "L = [1]; X = 1", "add(1, len([1]))")
	wantPut(t, "[X:Any, X:Any]", "X = [[1]]", "[[[1]], [[1]]]")
	wantPut(t, "[X:Any, $, _]", "X = nil()", "[nil(), $, _]")
	wantPut(t, "X:Any", "X = {1 -> 2, 'a -> [3]}", "{1 -> 2, 'a -> [3]}")
	// a name of something else is no variable
	wantPut(t, "[nil(), 'x, \"x\"]", "nil = 1; x = 2", "[nil(), 'x, \"x\"]")
	// the result need not fit
	wantPut(t, "plus(X:Any, 1)", "X = true", "plus(true, 1)")
	wantPut(t, "pair(X:Pgm, 1)", "X = nil()", "pair(nil(), 1)")
}

// P4.4: Rests
func TestPutRests(t *testing.T) {
	wantPut(t, "[1 | L]", "L = [2, [3]]", "[1, 2, [3]]")
	wantPut(t, "[1 | L]", "L = []", "[1]")
	wantPut(t, "[|L]", "L = [1]", "[1]")
	wantPut(t, "[|L]", "L = []", "[]")
	wantPut(t, "[L:List, [L:List | L] | L]", "L = [1]", "[[1], [[1], 1], 1]")
	wantPut(t, "[X:Int | L]", "X = 1", "[1 | L]")
	wantPut(t, "[X:Int | L]", "L = [2]", "[X:Int, 2]")
	wantPut(t, "{|M}", "M = {1 -> 2, 'a -> 3}", "{1 -> 2, 'a -> 3}")
	wantPut(t, "{1 -> 2 | M}", "M = {}", "{1 -> 2}")
	wantPut(t, "{2 -> X:Int | M}", "M = {1 -> 0, 'a -> 0}", "{1 -> 0, 2 -> X:Int, 'a -> 0}")
	wantPut(t, "{2 -> X:Int | M}", "X = 5", "{2 -> 5 | M}")
	wantPut(t, "[{1 -> 2 | M}, {3 -> M:Map | M}]", "M = {2 -> 3}", "[{1 -> 2, 2 -> 3}, {2 -> 3, 3 -> {2 -> 3}}]")
}

// P4.4: maps whose keys are all KInt, KText and KId are in order, and others as they come.
func TestPutOrder(t *testing.T) {
	wantPut(t, "{'b -> 1, \"c\" -> 2, 'a -> 3, 7 -> 4, -1 -> 5}", "", "{-1 -> 5, 7 -> 4, \"c\" -> 2, 'a -> 3, 'b -> 1}")
	wantPut(t, "{'b -> 1, 'a -> 2 | M}", "", "{'a -> 2, 'b -> 1 | M}")
	wantPut(t, "[[{2 -> {4 -> 0, 3 -> 0}, 1 -> 0}]]", "", "[[{1 -> 0, 2 -> {3 -> 0, 4 -> 0}}]]")
	wantPut(t, "{K:Int -> 1, 2 -> 2, J:Int -> 3}", "J = 3; K = 1", "{1 -> 1, 2 -> 2, 3 -> 3}")
	wantPut(t, "{K:Int -> 1, 2 -> 2, J:Int -> 3}", "J = 1; K = 3", "{1 -> 3, 2 -> 2, 3 -> 1}")
	wantPut(t, "{K:Int -> 1, 2 -> 2, J:Int -> 3}", "J = 1", "{K:Int -> 1, 2 -> 2, 1 -> 3}")
	wantPut(t, "{K:Int -> 1, 2 -> 2 | M}", "M = {1 -> 3, 3 -> 4}", "{K:Int -> 1, 2 -> 2, 1 -> 3, 3 -> 4}")
	wantPut(t, "{9 -> 1, add(1, 2) -> 1, 3 -> 1}", "", "{9 -> 1, add(1, 2) -> 1, 3 -> 1}")
	wantPut(t, "{{2 -> 0, 1 -> 0} -> {4 -> 0, 3 -> 0}, [] -> 0, 1 -> 0}", "", "{{1 -> 0, 2 -> 0} -> {3 -> 0, 4 -> 0}, [] -> 0, 1 -> 0}")
	// a key that is of another kind may be there twice
	wantPut(t, "{K:Any -> 1, J:Any -> 2}", "J = true; K = true", "{true -> 1, true -> 2}")
	wantPut(t, "{K:Any -> 1, K:Any -> 2, [] -> 0, [] -> 0}", "", "{K:Any -> 1, K:Any -> 2, [] -> 0, [] -> 0}")
}

// wantNoPut puts a substitution in; together with the error the result is zero.
func wantNoPut(t *testing.T, s api.Sig, x api.Term, u api.Subst, want api.Errno) {
	t.Helper()
	if got, e := match.Put(s, x, u); e != want || !term.Same(got, api.Term{}) {
		t.Error(x, u, "gives", got, e, "not", want)
	}
}

// P4.4: ErrArg comes before all others.
func TestPutArguments(t *testing.T) {
	for _, s := range invalid() {
		wantNoPut(t, s, whole(1), nil, api.ErrArg)
	}
	for _, u := range notValid() {
		wantNoPut(t, base(), whole(1), u, api.ErrArg)
		wantNoPut(t, base(), read("{1 -> 1, 1 -> 1}"), u, api.ErrArg)
	}
	for _, x := range append(reads("nothing(X:Bool)", "plus(1)", "plus(X:Bool, 1)", "plus(1, true)", "X:Nothing", "[X:Nothing]", "add(1, 'a)", "len({})"), api.Term{}, table(whole(1)), variable("_", "Int"), with(list(), "_"), nested(api.MaxNest, whole(1))) {
		wantNoPut(t, base(), x, subst("X = 1"), api.ErrArg)
	}
}

// P4.4: ErrSort, also of a Rest, comes before ErrTwice and ErrLimit.
func TestPutSorts(t *testing.T) {
	for _, x := range []struct{ t, u string }{
		{"X:Bool", "X = 1"}, {"X:Int", "X = plus(1, 2)"}, {"[Y:Int, [X:Id]]", "X = 1"}, {"[X:Any, X:Bool]", "X = 1"}, {"plus(X:Exp, 1)", "X = nil()"}, {"add(X:Int, 1)", "X = 'a"},
		{"{X:Id -> 1}", "X = 1"}, {"{1 -> X:List}", "X = {}"},
		{"[1 | L]", "L = 1"}, {"[1 | L]", "L = {}"}, {"{|M}", "M = []"}, {"[[|L] | K]", "K = []; L = nil()"},
		{"[X:Bool, {1 -> 1, 1 -> 1}]", "X = 1"}, {"[{1 -> 1, 1 -> 1}, X:Bool]", "X = 1"}, {"{X:Int -> 1, Y:Any -> 2, Z:Id -> 3}", "X = 1; Y = 1; Z = 1"},
	} {
		wantNoPut(t, base(), read(x.t), subst(x.u), api.ErrSort)
	}
	u := api.Subst{{Var: "L", Term: list(many(api.MaxSize-1, zero)...)}, {Var: "X", Term: whole(1)}}
	wantNoPut(t, base(), read("[L:List, L:List, X:Bool]"), u, api.ErrSort)
}

// P4.4: ErrTwice comes before ErrLimit.
func TestPutTwice(t *testing.T) {
	for _, x := range []struct{ t, u string }{
		{"{1 -> 1, 1 -> 2}", ""}, {"{'a -> 1, 2 -> 1, 'a -> 1}", ""}, {"[[{\"a\" -> 1, 'a -> 1, \"a\" -> 1}]]", ""}, {"{1 -> 1, 1 -> 2 | M}", ""}, {"{{1 -> 1, 1 -> 2} -> 1}", ""},
		{"{K:Int -> 1, 2 -> 1}", "K = 2"}, {"{K:Int -> 1, J:Any -> 1}", "J = 1; K = 1"}, {"{K:Any -> 1, K:Any -> 1}", "K = \"\""}, {"{K:Any -> 1, 1 -> 1, J:Any -> 2, L:Any -> 3}", "J = 1"},
		{"{'a -> 1 | M}", "M = {'a -> 1}"}, {"{K:Any -> 1 | M}", "K = 3; M = {1 -> 1, 2 -> 2, 3 -> 3}"}, {"{[] -> 1, 3 -> 1 | M}", "M = {1 -> 1, 2 -> 2, 3 -> 3}"}, {"[{|M}, {1 -> 2 | M}]", "M = {1 -> 1}"},
	} {
		wantNoPut(t, base(), read(x.t), subst(x.u), api.ErrTwice)
	}
	u := api.Subst{{Var: "L", Term: list(many(api.MaxSize-1, zero)...)}}
	wantNoPut(t, base(), read("[L:List, L:List, {1 -> 1, 1 -> 1}]"), u, api.ErrTwice)
	wantPut(t, "[{1 -> 1}, {1 -> 1}, {1 -> {1 -> 1}}]", "", "[{1 -> 1}, {1 -> 1}, {1 -> {1 -> 1}}]")
	wantPut(t, "{1 -> 1, \"a\" -> 2, 'a -> 3, K:Any -> 4}", "K = \"b\"", "{1 -> 1, \"a\" -> 2, \"b\" -> 4, 'a -> 3}")
}

// P4.4: ErrLimit of a result that is too large or too deep
func TestPutLimit(t *testing.T) {
	u := api.Subst{{Var: "D", Term: nested(api.MaxNest-1, whole(1))}, {Var: "L", Term: list(many(999, zero)...)}, {Var: "M", Term: numbered(500, zero)}}
	for _, x := range []struct {
		t    string
		want int // its size; 0: none
	}{
		{"L:List", 1000}, {"[|L]", 1000}, {"[L:List | L]", 2000}, {"[L:List, 1 | L]", 0}, {"pair([|L], [1 | L])", 0}, {"pair(L:List, 1)", 1002},
		{"[L:List, M:Map]", 0}, {"[1, [|L], 2]", 1003}, {"{1000 -> [|L]}", 1002}, {"{1000 -> [|L] | M}", 0}, {"{1000 -> 0 | M}", 1003}, {"D:Any", 60}, {"[D:Any]", 0}, {"[[], 1 | L]", 1002},
	} {
		got, e := match.Put(base(), read(x.t), u)
		if x.want == 0 {
			wantNoPut(t, base(), read(x.t), u, api.ErrLimit)
		} else if size, _ := term.Size(got); e != api.OK || size != x.want {
			t.Error(x.t, e, size)
		}
	}
	half := api.Subst{{Var: "L", Term: list(many(999, zero)...)}, {Var: "X", Term: list(many(998, zero)...)}}
	if size, e := term.Size(put(t, read("[L:List, X:List]"), half)); size != api.MaxSize || e != api.OK {
		t.Error(size, e)
	}
	wantNoPut(t, base(), read("[L:List, X:List, 1]"), half, api.ErrLimit)
	// far too large
	full := api.Subst{{Var: "L", Term: list(many(api.MaxSize-1, zero)...)}, {Var: "M", Term: numbered(999, zero)}}
	for _, part := range reads("[|L]", "L:List", "{|M}", "{-1 -> M:Map | M}") {
		wantNoPut(t, base(), list(many(399, func(int) api.Term { return part })...), full, api.ErrLimit)
	}
}

// Rule 3
func TestPutMemory(t *testing.T) {
	x, u := read("[X:Any, X:Any, [4], {1 -> [5] | M} | L]"), subst("L = [[1]]; M = {2 -> [2]}; X = [3]")
	args := func() string { return text(t, x) + shown(t, u) }
	before := args()
	got := put(t, x, u)
	want := "[[3], [3], [4], {1 -> [5], 2 -> [2]}, [1]]"
	if text(t, got) != want || args() != before {
		t.Fatal(text(t, got), args())
	}
	got.Kids[0].Kids[0] = whole(7)
	if text(t, got) != "[[7]"+want[4:] {
		t.Error("two parts share memory:", text(t, got))
	}
	spoil(got.Kids)
	if args() != before {
		t.Error("the result shares memory:", args())
	}
	got = put(t, x, u)
	spoil([]api.Term{x})
	spoilSubst(u)
	if text(t, got) != want {
		t.Error("arguments are kept:", text(t, got))
	}
}
