package term_test

import (
	"slices"
	"strings"
	"testing"

	"voussoir/api"
	"voussoir/term"
)

// The example of the chapter
func TestExample(t *testing.T) {
	x := app("plus", variable("X", "Int"), with(list(whole(-1)), "L"))
	if s, e := term.Text(x); s != "plus(X:Int, [-1 | L])" || e != api.OK {
		t.Error(s, e)
	}
	if n, e := term.Size(x); n != 5 || e != api.OK {
		t.Error("size", n, e)
	}
	if n, e := term.Depth(x); n != 3 || e != api.OK {
		t.Error("depth", n, e)
	}
	if got, e := term.Vars(x); !slices.Equal(got, []string{"L", "X"}) || e != api.OK {
		t.Error("variables", got, e)
	}
}

// P2.6
func TestText(t *testing.T) {
	for _, x := range []struct {
		term api.Term
		want string
	}{
		{whole(0), "0"}, {whole(12), "12"}, {whole(-7), "-7"}, {whole(api.MaxInt), "2147483647"}, {whole(-api.MaxInt), "-2147483647"},
		{truth(0), "false"}, {truth(1), "true"},
		{str(""), `""`}, {str(" a 'b' // c "), `" a 'b' // c "`},
		{id("a"), "'a"}, {id("a_B1"), "'a_B1"},
		{variable("X", "Int"), "X:Int"}, {variable("x", "Nothing"), "x:Nothing"}, {variable("_", "Any"), "_"}, {variable("$", "Any"), "$"}, {variable("X", "Any"), "X:Any"},
		{app("f"), "f()"}, {app("f", whole(-1)), "f(-1)"}, {app("f", whole(1), id("a"), str("b")), `f(1, 'a, "b")`}, {app("f'1"), "f'1()"}, {app("plus'8", app("f")), "plus'8(f())"}, {app("add", whole(1), whole(2)), "add(1, 2)"},
		{list(), "[]"}, {list(whole(1)), "[1]"}, {list(whole(1), list(), whole(-2)), "[1, [], -2]"},
		{with(list(), "L"), "[| L]"}, {with(list(whole(1)), "L"), "[1 | L]"}, {with(list(whole(1), whole(2)), "Lx"), "[1, 2 | Lx]"},
		{table(), "{}"}, {table(id("a"), whole(-1)), "{'a -> -1}"}, {table(whole(1), truth(1), str("b"), table()), `{1 -> true, "b" -> {}}`},
		{with(table(), "M"), "{| M}"}, {with(table(whole(1), whole(2)), "M"), "{1 -> 2 | M}"}, {with(table(whole(1), whole(2), variable("K", "Id"), variable("_", "Any")), "M"), "{1 -> 2, K:Id -> _ | M}"},
		{table(whole(2), whole(0), whole(1), whole(0)), "{2 -> 0, 1 -> 0}"},
		{everything(), `plus([-1, true, "a b", 'x1, X:Int, _ | L], {'k -> nil(), 3 -> $ | M})`},
	} {
		if got, e := term.Text(x.term); got != x.want || e != api.OK {
			t.Errorf("%q instead of %q: %d", got, x.want, e)
		}
	}
}

// P2.6: MaxText bytes, and one more
func TestTextLimit(t *testing.T) {
	const each = 200 + 4 // of an element, with its quotation marks and what stands between two
	n := api.MaxText / each
	kids := slices.Repeat([]api.Term{str(letters(200))}, n)
	free := api.MaxText - n*each - 2 - 2
	long := list(append(kids, str(letters(free)))...)
	if s, e := term.Text(long); len(s) != api.MaxText || !strings.HasPrefix(s, `["aaa`) || e != api.OK {
		t.Error(len(s), e)
	}
	long.Kids[n] = str(letters(free + 1))
	if s, e := term.Text(long); s != "" || e != api.ErrLimit {
		t.Error(len(s), e)
	}
	huge := list(slices.Repeat([]api.Term{str(letters(200))}, api.MaxSize-1)...)
	if s, e := term.Text(huge); s != "" || e != api.ErrLimit {
		t.Error(len(s), e)
	}
}

// P2.4
func TestSizeAndDepth(t *testing.T) {
	for _, x := range []struct {
		term        api.Term
		size, depth int
	}{
		{whole(1), 1, 1}, {truth(1), 1, 1}, {str("a b"), 1, 1}, {id("a"), 1, 1}, {variable("X", "Int"), 1, 1}, {app("f"), 1, 1}, {list(), 1, 1}, {table(), 1, 1},
		{list(whole(1)), 2, 2}, {list(list(), list()), 3, 2}, {with(list(), "L"), 2, 2}, {with(list(whole(1), whole(2)), "L"), 4, 2}, {with(table(), "M"), 2, 2}, {with(table(whole(1), list()), "M"), 4, 2},
		{app("f", app("g", whole(1)), whole(2)), 4, 3}, {app("f", whole(2), app("g", app("h", whole(1)))), 5, 4}, {table(whole(1), list(whole(1))), 4, 3}, {table(list(whole(1)), whole(1)), 4, 3},
		{list(with(list(), "L")), 3, 3}, {with(list(list(list())), "L"), 4, 3}, {everything(), 15, 3},
		{many(api.MaxSize - 1), api.MaxSize, 2}, {nested(api.MaxNest-1, whole(1)), api.MaxNest, api.MaxNest},
	} {
		if got, e := term.Size(x.term); got != x.size || e != api.OK {
			t.Error("size", text(t, x.term), got, e)
		}
		if got, e := term.Depth(x.term); got != x.depth || e != api.OK {
			t.Error("depth", text(t, x.term), got, e)
		}
	}
}

// P2.5
func TestVars(t *testing.T) {
	for _, x := range []struct {
		term api.Term
		want []string
	}{
		{whole(1), nil}, {id("a"), nil}, {app("x"), nil}, {variable("_", "Any"), nil}, {list(variable("_", "Any"), variable("_", "Any")), nil},
		{variable("X", "Int"), []string{"X"}}, {variable("$", "Any"), []string{"$"}}, {with(list(), "L"), []string{"L"}}, {with(table(), "M"), []string{"M"}},
		{list(variable("X", "Int"), variable("X", "Int")), []string{"X"}}, {list(variable("X", "Int"), variable("X", "Bool")), []string{"X"}}, {with(list(variable("L", "List")), "L"), []string{"L"}},
		{list(variable("b", "Int"), variable("a1", "Int"), variable("B", "Int"), variable("a", "Int"), variable("_", "Any"), variable("$", "Any"), variable("b", "Int")), []string{"$", "B", "a", "a1", "b"}},
		{with(table(variable("K", "Id"), app("f", variable("V", "Any"))), "A"), []string{"A", "K", "V"}},
		{app("f", list(with(list(app("g", variable("Z", "Int"))), "Y")), variable("X", "Int")), []string{"X", "Y", "Z"}},
		{everything(), []string{"$", "L", "M", "X"}},
	} {
		if got, e := term.Vars(x.term); !slices.Equal(got, x.want) || e != api.OK {
			t.Error(text(t, x.term), got, e)
		}
	}
}

// P2.4, P2.5, P2.6: errors
func TestMeasureErrors(t *testing.T) {
	for i, x := range illFormed() {
		if got, e := term.Size(x); got != 0 || e != api.ErrArg {
			t.Error("size", i, got, e)
		}
		if got, e := term.Depth(x); got != 0 || e != api.ErrArg {
			t.Error("depth", i, got, e)
		}
		if got, e := term.Vars(x); len(got) != 0 || e != api.ErrArg {
			t.Error("variables", i, got, e)
		}
		if got, e := term.Text(x); got != "" || e != api.ErrArg {
			t.Error("text", i, got, e)
		}
	}
}
