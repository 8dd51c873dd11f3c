package term_test

import (
	"strings"
	"testing"

	"voussoir/api"
	"voussoir/term"
)

// base returns a valid signature. It is new memory at each call.
func base() api.Sig {
	return api.Sig{
		Sorts: []string{"Exp", "Pgm", "Alone"},
		Below: []api.Below{{Low: "Int", High: "Exp"}, {Low: "Id", High: "Exp"}, {Low: "Exp", High: "Pgm"}},
		Ops: []api.Op{
			{Name: "plus", Args: []string{"Exp", "Exp"}, Sort: "Exp"},
			{Name: "plus'1", Args: []string{"Exp"}, Sort: "Exp"},
			{Name: "box", Args: []string{"Any"}, Sort: "Alone"},
			{Name: "block", Args: []string{"List", "Map"}, Sort: "Pgm"},
			{Name: "nil", Sort: "Pgm"},
			{Name: "sole", Args: []string{"Alone"}, Sort: "Alone"},
		},
		Funs: []api.Op{
			{Name: "len", Args: []string{"List"}, Sort: "Int"},
			{Name: "any", Sort: "Any"},
		},
		Values: []string{"Int", "Alone"},
	}
}

// invalid returns signatures that are not valid.
func invalid() []api.Sig {
	unknown, circle, twice := base(), base(), base()
	unknown.Values = []string{"Nothing"}
	circle.Below = append(circle.Below, api.Below{Low: "Pgm", High: "Exp"})
	twice.Funs[0].Name = "plus"
	return []api.Sig{unknown, circle, twice}
}

func letters(n int) string { return strings.Repeat("a", n) }

func whole(n int) api.Term { return api.Term{Kind: api.KInt, N: n} }

func truth(n int) api.Term { return api.Term{Kind: api.KBool, N: n} }

func str(s string) api.Term { return api.Term{Kind: api.KText, Text: s} }

func id(s string) api.Term { return api.Term{Kind: api.KId, Text: s} }

func app(name string, kids ...api.Term) api.Term {
	return api.Term{Kind: api.KApp, Text: name, Kids: kids}
}

func variable(name, sort string) api.Term { return api.Term{Kind: api.KVar, Text: name, Sort: sort} }

func list(kids ...api.Term) api.Term { return api.Term{Kind: api.KList, Kids: kids} }

func table(kids ...api.Term) api.Term { return api.Term{Kind: api.KMap, Kids: kids} }

// with returns a list or a map with a Rest.
func with(t api.Term, name string) api.Term {
	sort := "List"
	if t.Kind == api.KMap {
		sort = "Map"
	}
	t.Rest = []api.Term{variable(name, sort)}
	return t
}

// nested returns a term in n lists.
func nested(n int, t api.Term) api.Term {
	for range n {
		t = list(t)
	}
	return t
}

// many returns a list of n integers.
func many(n int) api.Term { return list(ones(n)...) }

// ones returns n integers.
func ones(n int) []api.Term {
	kids := make([]api.Term, n)
	for i := range kids {
		kids[i] = whole(1)
	}
	return kids
}

// shared returns a term of few slices that has 2^n - 1 nodes.
func shared(n int) api.Term {
	t := whole(1)
	for range n - 1 {
		t = list(t, t)
	}
	return t
}

// everything returns a term with something of each kind. It is new memory at each call.
func everything() api.Term {
	return app("plus",
		with(list(whole(-1), truth(1), str("a b"), id("x1"), variable("X", "Int"), variable("_", "Any")), "L"),
		with(table(id("k"), app("nil"), whole(3), variable("$", "Any")), "M"),
	)
}

// illFormed returns terms that are not well formed.
func illFormed() []api.Term {
	return []api.Term{
		{},
		whole(api.MaxInt + 1),
		id("A"),
		app("plus", whole(1), api.Term{}),
		with(list(), "_"),
		many(api.MaxSize),
		nested(api.MaxNest, whole(1)),
		shared(api.MaxNest),
	}
}

// wantUnchanged reports an argument that a call has changed.
func wantUnchanged(t *testing.T, x api.Term) {
	t.Helper()
	if !term.Same(x, everything()) {
		t.Error("the argument is changed:", x)
	}
}

// spoil writes over all memory of a term.
func spoil(x api.Term) {
	for _, part := range [][]api.Term{x.Kids, x.Rest} {
		for i := range part {
			spoil(part[i])
			part[i] = str("spoilt")
		}
	}
}

// text returns the string of a term that has one.
func text(t *testing.T, x api.Term) string {
	t.Helper()
	s, e := term.Text(x)
	if e != api.OK {
		t.Fatal(x, e)
	}
	return s
}
