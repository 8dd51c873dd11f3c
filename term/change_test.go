package term_test

import (
	"slices"
	"testing"

	"voussoir/api"
	"voussoir/term"
)

// P2.7: paths that lead to a term
func TestAt(t *testing.T) {
	for _, x := range []struct {
		path []int
		want string
	}{
		{nil, text(t, everything())},
		{[]int{}, text(t, everything())},
		{[]int{0}, `[-1, true, "a b", 'x1, X:Int, _ | L]`},
		{[]int{0, 0}, "-1"},
		{[]int{0, 5}, "_"},
		{[]int{1}, "{'k -> nil(), 3 -> $ | M}"},
		{[]int{1, 0}, "'k"},
		{[]int{1, 1}, "nil()"},
		{[]int{1, 3}, "$"},
	} {
		y := everything()
		got, e := term.At(y, x.path)
		if e != api.OK || text(t, got) != x.want {
			t.Error(x.path, got, e)
		}
		spoil(got)
		wantUnchanged(t, y)
	}
}

// astray returns paths that lead to no term of everything.
func astray() [][]int {
	return [][]int{{2}, {-1}, {0, 6}, {0, -1}, {0, 0, 0}, {1, 4}, {1, 1, 0}, {0, 6, 0}, {-1 << 63}, {1<<63 - 1}, {2, 0}, slices.Repeat([]int{0}, 1<<20)}
}

// P2.7: errors of At
func TestAtErrors(t *testing.T) {
	for i, path := range astray() {
		if got, e := term.At(everything(), path); !term.Same(got, api.Term{}) || e != api.ErrNone {
			t.Error(i, got, e)
		}
	}
	for i, x := range illFormed() {
		for _, path := range [][]int{nil, {0}, {9}} {
			if got, e := term.At(x, path); !term.Same(got, api.Term{}) || e != api.ErrArg {
				t.Error(i, got, e)
			}
		}
	}
}

// P2.7: With
func TestWith(t *testing.T) {
	u := with(list(whole(5)), "U")
	for _, x := range []struct {
		path []int
		want string
	}{
		{nil, "[5 | U]"},
		{[]int{0}, "plus([5 | U], {'k -> nil(), 3 -> $ | M})"},
		{[]int{1}, `plus([-1, true, "a b", 'x1, X:Int, _ | L], [5 | U])`},
		{[]int{0, 0}, `plus([[5 | U], true, "a b", 'x1, X:Int, _ | L], {'k -> nil(), 3 -> $ | M})`},
		{[]int{0, 5}, `plus([-1, true, "a b", 'x1, X:Int, [5 | U] | L], {'k -> nil(), 3 -> $ | M})`},
		{[]int{1, 0}, `plus([-1, true, "a b", 'x1, X:Int, _ | L], {[5 | U] -> nil(), 3 -> $ | M})`},
		{[]int{1, 3}, `plus([-1, true, "a b", 'x1, X:Int, _ | L], {'k -> nil(), 3 -> [5 | U] | M})`},
	} {
		y := everything()
		got, e := term.With(y, x.path, u)
		if e != api.OK || text(t, got) != x.want {
			t.Error(x.path, got, e)
		}
		spoil(got)
		wantUnchanged(t, y)
		if !term.Same(u, with(list(whole(5)), "U")) {
			t.Error("the argument is changed:", u)
		}
	}
}

// P2.7: errors of With
func TestWithErrors(t *testing.T) {
	deep, large := nested(api.MaxNest-1, whole(1)), many(api.MaxSize-1)
	for i, path := range astray() {
		for _, u := range []api.Term{whole(1), deep, large} {
			if got, e := term.With(everything(), path, u); !term.Same(got, api.Term{}) || e != api.ErrNone {
				t.Error(i, got, e)
			}
		}
	}
	for i, x := range illFormed() {
		for _, path := range [][]int{nil, {0}, {9}} {
			if got, e := term.With(x, path, whole(1)); !term.Same(got, api.Term{}) || e != api.ErrArg {
				t.Error(i, got, e)
			}
			if got, e := term.With(whole(1), path, x); !term.Same(got, api.Term{}) || e != api.ErrArg {
				t.Error(i, got, e)
			}
		}
	}
}

// P2.7: results that are too large or too deep
func TestWithLimits(t *testing.T) {
	deep, large := nested(api.MaxNest-1, whole(1)), many(api.MaxSize-1)
	down := slices.Repeat([]int{0}, api.MaxNest-1)
	for i, x := range []struct {
		term api.Term
		path []int
		u    api.Term
		want api.Errno
	}{
		{deep, nil, large, api.OK},
		{large, nil, deep, api.OK},
		{deep, down, list(), api.OK},
		{deep, down, list(whole(1)), api.ErrLimit},
		{deep, down, with(list(), "L"), api.ErrLimit},
		{deep, []int{0}, deep, api.ErrLimit},
		{list(whole(1)), []int{0}, deep.Kids[0], api.OK},
		{list(whole(1)), []int{0}, deep, api.ErrLimit},
		{large, []int{7}, whole(2), api.OK},
		{large, []int{7}, list(), api.OK},
		{large, []int{7}, list(whole(1)), api.ErrLimit},
		{list(whole(1)), []int{0}, many(api.MaxSize - 2), api.OK},
		{list(whole(1)), []int{0}, large, api.ErrLimit},
		{with(list(whole(1)), "L"), []int{0}, many(api.MaxSize - 2), api.ErrLimit},
	} {
		got, e := term.With(x.term, x.path, x.u)
		if e != x.want || term.Valid(got) != (e == api.OK) || e != api.OK && !term.Same(got, api.Term{}) {
			t.Error(i, e)
		}
	}
}

// P2.8
func TestRename(t *testing.T) {
	for _, x := range []struct {
		term api.Term
		a, b string
		want string
	}{
		{everything(), "plus", "new", `new([-1, true, "a b", 'x1, X:Int, _ | L], {'k -> nil(), 3 -> $ | M})`},
		{everything(), "new", "nil", `plus([-1, true, "a b", 'x1, X:Int, _ | L], {'k -> new(), 3 -> $ | M})`},
		{everything(), "L", "M", `plus([-1, true, "a b", 'x1, X:Int, _ | M], {'k -> nil(), 3 -> $ | L})`},
		{everything(), "X", "L", `plus([-1, true, "a b", 'x1, L:Int, _ | X], {'k -> nil(), 3 -> $ | M})`},
		{everything(), "Int", "Exp", `plus([-1, true, "a b", 'x1, X:Exp, _ | L], {'k -> nil(), 3 -> $ | M})`},
		{everything(), "nil", "plus", `nil([-1, true, "a b", 'x1, X:Int, _ | L], {'k -> plus(), 3 -> $ | M})`},
		{everything(), "plus", "plus", text(t, everything())},
		{everything(), "other", "another", text(t, everything())},
		{app("f'2", variable("f", "g")), "f", "g", "g'2(g:f)"},
		{app("f'1", app("g'2"), app("f"), app("g"), app("fg'3")), "g", "f", "g'1(f'2(), g(), f(), fg'3())"},
		{variable("X", "X"), "X", "Y", "Y:Y"},
		{list(variable("X", "List"), variable("List", "X")), "List", "X", "[List:X, X:List]"},
		{list(id("k"), str("k"), str("Int"), id("x"), truth(1)), "k", "x", `['k, "k", "Int", 'x, true]`},
		{app("true", truth(1)), "true", "false", "false(true)"},
		{app("add", app("len", list())), "add", "len", "len(add([]))"},
	} {
		y := text(t, x.term)
		for _, pair := range [][2]string{{x.a, x.b}, {x.b, x.a}} {
			got, e := term.Rename(x.term, pair[0], pair[1])
			if e != api.OK || text(t, got) != x.want {
				t.Error(y, pair, got, e)
			}
			spoil(got)
			if text(t, x.term) != y {
				t.Error("the argument is changed:", y)
			}
		}
	}
}

// P2.8: _, $ and Rests keep their Sorts, whatever is exchanged for these.
func TestRenameGiven(t *testing.T) {
	x := list(variable("_", "Any"), variable("$", "Any"), with(list(), "List"), with(table(), "Map"), variable("Any", "Any"), variable("L", "List"), variable("M", "Map"))
	for _, y := range []struct{ a, b, want string }{
		{"Any", "New", "[_, $, [| List], {| Map}, New:New, L:List, M:Map]"},
		{"List", "New", "[_, $, [| New], {| Map}, Any:Any, L:New, M:Map]"},
		{"Map", "List", "[_, $, [| Map], {| List}, Any:Any, L:Map, M:List]"},
	} {
		got, e := term.Rename(x, y.a, y.b)
		if e != api.OK || text(t, got) != y.want {
			t.Error(y, got, e)
		}
		sorts := []string{got.Kids[0].Sort, got.Kids[1].Sort, got.Kids[2].Rest[0].Sort, got.Kids[3].Rest[0].Sort}
		if !slices.Equal(sorts, []string{"Any", "Any", "List", "Map"}) {
			t.Error(y, sorts)
		}
	}
}

// P2.8: errors
func TestRenameErrors(t *testing.T) {
	for _, pair := range [][2]string{{"", "a"}, {"a", ""}, {"_", "a"}, {"a", "$"}, {"f'1", "a"}, {"a", "1"}, {"a", "b c"}, {letters(api.MaxName + 1), "a"}, {"a", letters(api.MaxName + 1)}} {
		if got, e := term.Rename(everything(), pair[0], pair[1]); !term.Same(got, api.Term{}) || e != api.ErrArg {
			t.Error(pair, got, e)
		}
	}
	for i, x := range illFormed() {
		if got, e := term.Rename(x, "a", "b"); !term.Same(got, api.Term{}) || e != api.ErrArg {
			t.Error(i, got, e)
		}
	}
	if got, e := term.Rename(app("a"), "a", letters(api.MaxName)); text(t, got) != letters(api.MaxName)+"()" || e != api.OK {
		t.Error(got, e)
	}
}
