package value_test

import (
	"strings"
	"testing"

	"voussoir/api"
	"voussoir/term"
	"voussoir/value"
)

// base returns a valid signature. It is new memory at each call.
func base() api.Sig {
	return api.Sig{
		Sorts: []string{"Exp", "Pgm", "Alone"},
		Below: []api.Below{{Low: "Int", High: "Exp"}, {Low: "Id", High: "Exp"}, {Low: "Exp", High: "Pgm"}, {Low: "Map", High: "Pgm"}},
		Ops: []api.Op{
			{Name: "plus", Args: []string{"Exp", "Exp"}, Sort: "Exp"},
			{Name: "plus'1", Args: []string{"Exp"}, Sort: "Exp"},
			{Name: "box", Args: []string{"Any"}, Sort: "Alone"},
			{Name: "nil", Sort: "Pgm"},
		},
		Funs:   []api.Op{{Name: "len", Args: []string{"List"}, Sort: "Int"}},
		Values: []string{"Exp", "Bool"},
	}
}

// invalid returns signatures that are not valid.
func invalid() []api.Sig {
	unknown, circle, twice := base(), base(), base()
	unknown.Values = []string{"Nothing"}
	circle.Below = append(circle.Below, api.Below{Low: "Pgm", High: "Exp"})
	twice.Funs[0].Name = "add"
	return []api.Sig{unknown, circle, twice}
}

func letters(n int) string { return strings.Repeat("a", n) }

func whole(n int) api.Term { return api.Term{Kind: api.KInt, N: n} }

func truth(n int) api.Term { return api.Term{Kind: api.KBool, N: n} }

func str(s string) api.Term { return api.Term{Kind: api.KText, Text: s} }

func id(s string) api.Term { return api.Term{Kind: api.KId, Text: s} }

func app(name string, kids ...api.Term) api.Term {
	return api.Term{Kind: api.KApp, Text: name, Kids: kids}
}

func variable(name, sort string) api.Term { return api.Term{Kind: api.KVar, Text: name, Sort: sort} }

func list(kids ...api.Term) api.Term { return api.Term{Kind: api.KList, Kids: kids} }

func table(kids ...api.Term) api.Term { return api.Term{Kind: api.KMap, Kids: kids} }

// with returns a list or a map with a Rest.
func with(t api.Term, name string) api.Term {
	sort := "List"
	if t.Kind == api.KMap {
		sort = "Map"
	}
	t.Rest = []api.Term{variable(name, sort)}
	return t
}

// nested returns a term in n lists.
func nested(n int, t api.Term) api.Term {
	for range n {
		t = list(t)
	}
	return t
}

// many returns a list of n integers: n + 1 nodes.
func many(n int) api.Term {
	kids := make([]api.Term, n)
	for i := range kids {
		kids[i] = whole(1)
	}
	return list(kids...)
}

// numbered returns a map of n entries, whose keys are the integers from 0 on: 2n + 1 nodes.
func numbered(n int) api.Term {
	var entries []api.Term
	for i := range n {
		entries = append(entries, whole(i), truth(1))
	}
	return table(entries...)
}

// spoil writes over all memory of terms.
func spoil(l []api.Term) {
	for i := range l {
		spoil(l[i].Kids)
		spoil(l[i].Rest)
		l[i] = str("spoilt")
	}
}

// text returns the string of a term that has one.
func text(t *testing.T, x api.Term) string {
	t.Helper()
	s, e := term.Text(x)
	if e != api.OK {
		t.Fatal(x, e)
	}
	return s
}

// apply returns the result of a function that has one.
func apply(t *testing.T, name string, args ...api.Term) api.Term {
	t.Helper()
	x, e := value.Apply(base(), name, args)
	if e != api.OK {
		t.Fatal(name, args, e)
	}
	return x
}

// example is what a function is given, and the string of its result.
type example struct {
	name string
	args []api.Term
	want string
}

func of(name, want string, args ...api.Term) example { return example{name, args, want} }

// wantResults applies functions in base's signature.
func wantResults(t *testing.T, examples ...example) {
	t.Helper()
	for _, x := range examples {
		got, e := value.Apply(base(), x.name, x.args)
		if e != api.OK || text(t, got) != x.want {
			t.Error(x.name, x.args, "gives", got, e, "not", x.want)
		}
	}
}

// wantError applies functions in a signature; together with the error the result is zero.
func wantError(t *testing.T, s api.Sig, want api.Errno, examples ...example) {
	t.Helper()
	for _, x := range examples {
		if got, e := value.Apply(s, x.name, x.args); e != want || !term.Same(got, api.Term{}) {
			t.Error(x.name, x.args, "gives", got, e, "not", want)
		}
	}
}
