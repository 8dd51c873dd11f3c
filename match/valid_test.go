package match_test

import (
	"strings"
	"testing"

	"voussoir/api"
	"voussoir/match"
)

// P4.1
func TestValid(t *testing.T) {
	for _, u := range []api.Subst{
		nil, {}, subst("X = 1"), subst("A = 'a; B = \"b\"; C = true"), subst("X = [1, [2]]; Y = {1 -> 2, \"a\" -> 3, 'a -> 4}"), subst("X = plus(1, 'a); x = nil()"),
		subst("List = 1; Map = 2; add = 3; len = 4; plus = 5; true = 6"), subst("X = 1; X1 = 1; X_ = 1"), subst(strings.Repeat("X", api.MaxName) + " = 1"),
		{{Var: "X", Term: nested(api.MaxNest-1, whole(1))}, {Var: "Y", Term: list(many(api.MaxSize-1, zero)...)}},
	} {
		if !match.Valid(base(), u) {
			t.Error("not valid:", shown(t, u))
		}
	}
}

// notValid returns substitutions that are not valid in base's signature.
func notValid() []api.Subst {
	l := []api.Subst{
		// Vars that are no names, or do not rise
		{{Term: whole(1)}}, subst("_ = 1"), subst("$ = 1"), subst("1X = 1"), subst("X'1 = 1"), subst("X Y = 1"), subst(strings.Repeat("X", api.MaxName+1) + " = 1"),
		subst("X = 1; X = 1"), subst("X = 1; X = 2"), subst("Y = 1; X = 1"), subst("X = 1; Z = 1; Y = 1"), subst("a = 1; B = 1"), subst("X = 1; Y = 1; X = 1"),
		// Terms that are not plain
		{{Var: "X"}}, subst("X = Y:Int"), subst("X = _"), subst("X = [1, Y:Int]"), subst("X = [1 | L]"), subst("X = {|M}"), subst("X = add(1, 2)"), subst("X = len([])"), subst("X = nothing()"),
		subst("X = plus(1, true)"), subst("X = plus(1)"), subst("X = plus(1, nil())"), subst("X = {2 -> 1, 1 -> 1}"), subst("X = {1 -> 1, 1 -> 1}"), subst("X = {true -> 1}"), subst("A = 1; X = {[] -> 1}"),
		{{Var: "X", Term: whole(api.MaxInt + 1)}}, {{Var: "X", Term: nested(api.MaxNest, whole(1))}}, {{Var: "X", Term: list(many(api.MaxSize, zero)...)}},
	}
	return l
}

// P4.1
func TestNotValid(t *testing.T) {
	for _, u := range notValid() {
		if match.Valid(base(), u) {
			t.Error("valid:", u)
		}
	}
	for _, s := range invalid() {
		if match.Valid(s, nil) || match.Valid(s, subst("X = 1")) {
			t.Error("valid in", s)
		}
	}
}

// P4.1
func TestPattern(t *testing.T) {
	for _, p := range reads(
		"1", "true", "\"a\"", "'a", "X:Int", "_", "[]", "{}", "[|L]", "{|M}", "nil()", "plus(X:Int, X:Int)", "plus(1, Y:Exp)", "plus(X:Pgm, X:Pgm)", "plus(X:Any, _)", "block(L:List, {|M})",
		"[X:Int, _, [X:Int | L], _ | L]", "[L:List | L]", "{'a -> M:Map | M}", "[[|X], [|X]]", "{1 -> _, \"a\" -> _, 'a -> _, K:Id -> _, J:Any -> _ | M}",
		"{2 -> 0, 1 -> 0}", "{1 -> 0, 1 -> 0}", "{K:Int -> 0, K:Int -> 0}", "{K:List -> 0}", "{K:Alone -> 0}", "{K:Bool -> 0}",
	) {
		if !match.Pattern(base(), p) {
			t.Error("no pattern:", text(t, p))
		}
	}
	for _, p := range []api.Term{nested(api.MaxNest-1, variable("X", "Int")), list(many(api.MaxSize-1, func(int) api.Term { return variable("X", "Int") })...)} {
		if !match.Pattern(base(), p) {
			t.Error("no pattern:", p)
		}
	}
}

// noPatterns returns terms that are no valid patterns in base's signature.
func noPatterns() []api.Term {
	l := reads(
		"len([])", "add(1, 2)", "isvalue(_)", "[1, [len(L:List)]]", "{1 -> add(1, X:Int)}", "plus(X:Int, len([]))", // functions
		"$", "[$]", "{1 -> $}", "box($)", "{$ -> 1}", // $
		"{_ -> 1}", "{true -> 1}", "{nil() -> 1}", "{[] -> 1}", "{{} -> 1}", "[{1 -> {_ -> 1}}]", "{add(1, 2) -> 1}", "{1 -> 1, [] -> 1}", // keys
		"[X:Int, X:Exp]", "plus(X:Int, X:Exp)", "[X:Int | X]", "{'a -> M:List | M}", "[[|X], {|X}]", "{K:Int -> K:Exp}", "{K:Int -> 1, K:Id -> 1}", "[X:Any, [X:List]]", // sorts
		"plus(1, true)", "plus(1)", "plus(1, 2, 3)", "plus(X:Bool, 1)", "plus(1, box(1))", "nothing()", "[X:Nothing]", "block([], L:List)", "nil(1)", // what does not fit
	)
	return append(l, api.Term{}, whole(api.MaxInt+1), variable("X", ""), variable("_", "Int"), table(whole(1)), nested(api.MaxNest, variable("X", "Int")), list(many(api.MaxSize, zero)...))
}

// P4.1
func TestNoPattern(t *testing.T) {
	for _, p := range noPatterns() {
		if match.Pattern(base(), p) {
			t.Error("a pattern:", p)
		}
	}
	for _, s := range invalid() {
		if match.Pattern(s, whole(1)) {
			t.Error("a pattern in", s)
		}
	}
}
