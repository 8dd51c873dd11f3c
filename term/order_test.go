package term_test

import (
	"cmp"
	"slices"
	"testing"

	"voussoir/api"
	"voussoir/term"
)

// rising returns terms in their order.
func rising() []api.Term {
	return []api.Term{
		whole(-api.MaxInt), whole(-10), whole(-2), whole(0), whole(9), whole(10), whole(api.MaxInt),
		truth(0), truth(1),
		str(""), str(" "), str("10"), str("9"), str("A"), str("B"), str("a"), str("aB"), str("aa"), str("b"),
		id("a"), id("a1"), id("aB"), id("a_"), id("aa"), id("b"),
		app("A"), app("a"), app("a", whole(1)), app("a", whole(1), whole(0)), app("a", whole(2)), app("a", truth(0)), app("a", app("b")), app("a", app("b", whole(1))),
		app("a'1"), app("a'1", whole(-5)), app("a'2"), app("a1"), app("b"),
		variable("$", "Any"), variable("A", "Int"), variable("A", "List"), variable("B", "Int"), variable("_", "Any"), variable("a", "Any"), variable("a", "Int"), variable("a", "any"),
		list(), with(list(), "K"), with(list(), "L"), with(list(), "k"),
		list(whole(1)), with(list(whole(1)), "K"), with(list(whole(1)), "L"), list(whole(1), whole(-1)), with(list(whole(1), whole(-1)), "A"), list(whole(1), whole(1)), list(whole(2)), list(str("a")), list(list()), list(list(), whole(0)), list(with(list(), "L")), list(list(whole(0))),
		table(), with(table(), "K"), table(whole(1), whole(5)), with(table(whole(1), whole(5)), "A"), table(whole(1), whole(5), whole(0), whole(0)), table(whole(1), whole(6)), table(whole(2), whole(0)), table(table(), whole(0)),
	}
}

// P2.3: the order of terms
func TestCompare(t *testing.T) {
	all := rising()
	for i, a := range all {
		for j, b := range all {
			want := 0
			if i < j {
				want = -1
			} else if i > j {
				want = 1
			}
			if got, e := term.Compare(a, b); got != want || e != api.OK {
				t.Error(text(t, a), text(t, b), got, e)
			}
			if got, e := term.Compare(app("f", whole(1), a, whole(2)), app("f", whole(1), b, whole(1))); got != cmp.Or(want, 1) || e != api.OK {
				t.Error("within", text(t, a), text(t, b), got, e)
			}
		}
	}
}

// P2.3: errors
func TestCompareErrors(t *testing.T) {
	for i, x := range illFormed() {
		for _, y := range []api.Term{whole(1), x} {
			if got, e := term.Compare(x, y); got != 0 || e != api.ErrArg {
				t.Error(i, got, e)
			}
			if got, e := term.Compare(y, x); got != 0 || e != api.ErrArg {
				t.Error(i, got, e)
			}
		}
	}
}

// P2.3: Same
func TestSame(t *testing.T) {
	all := rising()
	for i, a := range all {
		for j, b := range all {
			if term.Same(a, b) != (i == j) {
				t.Error(text(t, a), text(t, b))
			}
		}
	}
	if !term.Same(everything(), everything()) {
		t.Error("everything")
	}
	empty := list()
	empty.Kids, empty.Rest = []api.Term{}, []api.Term{}
	if !term.Same(list(), empty) || !term.Same(app("f", empty), app("f", list())) {
		t.Error("nil is the same as empty")
	}
}

// P2.3: Same of terms that are not well formed
func TestSameFields(t *testing.T) {
	full := func() api.Term {
		return api.Term{Kind: 9, N: 1, Text: "a", Sort: "b", Kids: []api.Term{whole(1), {}}, Rest: []api.Term{{N: 2}, {}}}
	}
	if !term.Same(full(), full()) || !term.Same(api.Term{}, api.Term{}) {
		t.Error("the same")
	}
	for i, change := range []func(x *api.Term){
		func(x *api.Term) { x.Kind = 8 },
		func(x *api.Term) { x.N = 2 },
		func(x *api.Term) { x.Text = "A" },
		func(x *api.Term) { x.Sort = "" },
		func(x *api.Term) { x.Kids[0].N = 2 },
		func(x *api.Term) { x.Kids[1].Sort = "b" },
		func(x *api.Term) { x.Kids = x.Kids[:1] },
		func(x *api.Term) { x.Kids = append(x.Kids, api.Term{}) },
		func(x *api.Term) { x.Kids = nil },
		func(x *api.Term) { slices.Reverse(x.Kids) },
		func(x *api.Term) { x.Rest[0].N = 1 },
		func(x *api.Term) { x.Rest[1].Kids = []api.Term{{}} },
		func(x *api.Term) { x.Rest = x.Rest[:1] },
		func(x *api.Term) { x.Rest = nil },
		func(x *api.Term) { x.Kids, x.Rest = x.Rest, x.Kids },
	} {
		x := full()
		change(&x)
		if term.Same(x, full()) || term.Same(full(), x) {
			t.Error("change", i)
		}
	}
}
