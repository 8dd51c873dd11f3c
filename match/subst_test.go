package match_test

import (
	"testing"

	"voussoir/api"
	"voussoir/match"
	"voussoir/term"
)

// P4.5
func TestGet(t *testing.T) {
	u := subst("A = 1; B = [2]; C = {1 -> 3}")
	for name, want := range map[string]string{"A": "1", "B": "[2]", "C": "{1 -> 3}"} {
		if x, e := match.Get(u, name); e != api.OK || text(t, x) != want {
			t.Error(name, x, e)
		}
	}
	for _, name := range []string{"", "D", "a", "AA", "_", "$"} {
		if x, e := match.Get(u, name); e != api.ErrNone || !term.Same(x, api.Term{}) {
			t.Error(name, x, e)
		}
	}
	if x, e := match.Get(nil, "A"); e != api.ErrNone || !term.Same(x, api.Term{}) {
		t.Error(x, e)
	}
}

// P4.5: the first pair counts, in whatever is no valid substitution.
func TestGetOfAny(t *testing.T) {
	u := subst("X = 1; A = add(1, 2); X = 2; _ = 3; $ = 4; A = 5")
	u = append(u, api.Pair{Term: nested(200, api.Term{Kind: -1})}, api.Pair{Term: whole(1)}, api.Pair{Var: "none"})
	for name, want := range map[string]string{"X": "1", "A": "add(1, 2)", "_": "3", "$": "4"} {
		if x, e := match.Get(u, name); e != api.OK || text(t, x) != want {
			t.Error(name, x, e)
		}
	}
	if x, e := match.Get(u, ""); e != api.OK || !term.Same(x, nested(200, api.Term{Kind: -1})) {
		t.Error(x, e)
	}
	if x, e := match.Get(u, "none"); e != api.OK || !term.Same(x, api.Term{}) {
		t.Error(x, e)
	}
}

// P4.5
func TestBind(t *testing.T) {
	for _, x := range []struct{ u, name, t, want string }{
		{"", "X", "1", "X = 1"}, {"B = 1; D = 2", "A", "[3]", "A = [3]; B = 1; D = 2"}, {"B = 1; D = 2", "C", "[3]", "B = 1; C = [3]; D = 2"}, {"B = 1; D = 2", "E", "[3]", "B = 1; D = 2; E = [3]"},
		{"B = 1", "b", "{1 -> 2}", "B = 1; b = {1 -> 2}"}, {"X = 1; Y = 2", "X", "1", "X = 1; Y = 2"}, {"X = [1, {2 -> 3}]", "X", "[1, {2 -> 3}]", "X = [1, {2 -> 3}]"}, {"", "Int", "'a", "Int = 'a"},
	} {
		got, e := match.Bind(base(), subst(x.u), x.name, read(x.t))
		if e != api.OK || shown(t, got) != x.want || !match.Valid(base(), got) {
			t.Error(x, got, e)
		}
	}
}

// wantNoBind binds a variable; together with the error the result is zero.
func wantNoBind(t *testing.T, s api.Sig, u api.Subst, name string, x api.Term, want api.Errno) {
	t.Helper()
	if got, e := match.Bind(s, u, name, x); e != want || len(got) != 0 {
		t.Error(u, name, x, "gives", got, e, "not", want)
	}
}

// P4.5: ErrArg comes before ErrTwice.
func TestBindErrors(t *testing.T) {
	for _, s := range invalid() {
		wantNoBind(t, s, nil, "X", whole(1), api.ErrArg)
	}
	for _, u := range notValid() {
		wantNoBind(t, base(), u, "X", whole(7), api.ErrArg)
		wantNoBind(t, base(), u, "Q", whole(7), api.ErrArg)
	}
	for _, name := range []string{"", "_", "$", "1", "X Y", "X'1", "_X", "ä"} {
		wantNoBind(t, base(), subst("X = 1"), name, whole(1), api.ErrArg)
	}
	for _, x := range append(reads("Y:Int", "_", "$", "[|L]", "add(1, 2)", "plus(1, true)", "{2 -> 0, 1 -> 0}", "nothing()"), api.Term{}, whole(api.MaxInt+1), nested(api.MaxNest, whole(1))) {
		wantNoBind(t, base(), nil, "X", x, api.ErrArg)
		wantNoBind(t, base(), subst("X = 1"), "X", x, api.ErrArg)
	}
	for _, x := range reads("2", "'a", "true", "[1]", "nil()") {
		wantNoBind(t, base(), subst("W = 0; X = 1; Y = 0"), "X", x, api.ErrTwice)
	}
}

// Rule 3
func TestSubstMemory(t *testing.T) {
	u, x := subst("X = [1]"), read("[2]")
	unchanged := func() bool { return shown(t, u) == "X = [1]" && text(t, x) == "[2]" }
	more, _ := match.Bind(base(), u, "Y", x)
	same, _ := match.Bind(base(), u, "X", read("[1]"))
	got, _ := match.Get(u, "X")
	if shown(t, more) != "X = [1]; Y = [2]" || shown(t, same) != "X = [1]" || text(t, got) != "[1]" || !unchanged() {
		t.Fatal(more, same, got, u, x)
	}
	spoilSubst(more)
	spoilSubst(same)
	spoil(got.Kids)
	if !unchanged() {
		t.Error("results share memory:", u, x)
	}
	more, _ = match.Bind(base(), u, "Y", x)
	same, _ = match.Bind(base(), u, "X", read("[1]"))
	got, _ = match.Get(u, "X")
	spoilSubst(u)
	spoil(x.Kids)
	if shown(t, more) != "X = [1]; Y = [2]" || shown(t, same) != "X = [1]" || text(t, got) != "[1]" {
		t.Error("arguments are kept:", more, same, got)
	}
}
