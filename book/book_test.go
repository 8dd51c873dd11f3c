package book_test

import (
	"slices"
	"testing"

	"voussoir/api"
	"voussoir/book"
	"voussoir/sorts"
	"voussoir/term"
)

func base() api.Sig {
	return api.Sig{
		Sorts:  []string{"Exp", "Pgm", "Alone"},
		Below:  []api.Below{{Low: "Int", High: "Exp"}, {Low: "Exp", High: "Pgm"}},
		Ops:    []api.Op{{Name: "plus", Args: []string{"Exp", "Exp"}, Sort: "Exp"}, {Name: "nil", Sort: "Pgm"}},
		Funs:   []api.Op{{Name: "len", Args: []string{"List"}, Sort: "Int"}},
		Values: []string{"Exp", "Map"},
	}
}

func opened(t *testing.T) *book.Book {
	t.Helper()
	b, e := book.Open(base())
	if e != api.OK {
		t.Fatal(e)
	}
	return b
}

// A book says of sorts what package sorts says, whenever it is asked.
func TestSorts(t *testing.T) {
	b := opened(t)
	all := []string{"Any", "Int", "Bool", "Text", "Id", "List", "Map", "Exp", "Pgm", "Alone"}
	for range 2 {
		for _, one := range all {
			for _, other := range all {
				if want, _ := sorts.AtMost(base(), one, other); b.AtMost(one, other) != want {
					t.Error("AtMost", one, other)
				}
				if want, _ := sorts.Meet(base(), one, other); b.Meet(one, other) != want {
					t.Error("Meet", one, other)
				}
			}
			if want, _ := sorts.Value(base(), one); b.Value(one) != want {
				t.Error("Value", one)
			}
			if !b.Exists(one) {
				t.Error("Exists", one)
			}
		}
		for _, name := range []string{"", "Nothing", "plus"} {
			if b.Exists(name) {
				t.Error("Exists", name)
			}
		}
	}
}

func TestFind(t *testing.T) {
	b := opened(t)
	for _, name := range []string{"plus", "nil", "len", "add", "isvalue"} {
		if op, ok := b.Find(name); !ok || op.Name != name {
			t.Error("Find", name, op, ok)
		}
		if op, ok := b.Op(name); ok != (name == "plus" || name == "nil") || ok && op.Name != name {
			t.Error("Op", name, op, ok)
		}
	}
	for _, name := range []string{"", "nothing", "Exp", "add'1"} {
		if op, ok := b.Find(name); ok || op.Name != "" {
			t.Error("Find", name, op)
		}
	}
}

// Each function that package sorts says is built in has sorts, and no other one.
func TestBuiltIn(t *testing.T) {
	for _, name := range []string{
		"add", "sub", "mul", "div", "mod", "neg", "lt", "le", "gt", "ge", "eq", "ne", "and", "or", "not", "pick",
		"cat", "length", "text", "join", "get", "put", "has", "del", "keys", "size", "is", "isvalue", "", "plus", "Add", "add'1",
	} {
		f, ok := book.BuiltIn(name)
		if ok != sorts.BuiltIn(name) || ok && (f.Name != name || f.Sort == "" || len(f.Args) == 0) {
			t.Error(name, f, ok)
		}
	}
	if f, _ := book.BuiltIn("put"); f.Sort != "Map" || !slices.Equal(f.Args, []string{"Map", "Any", "Any"}) {
		t.Error(f)
	}
}

func TestSort(t *testing.T) {
	b := opened(t)
	for _, x := range []struct {
		term api.Term
		want string
	}{
		{api.Term{Kind: api.KInt}, "Int"}, {api.Term{Kind: api.KBool}, "Bool"}, {api.Term{Kind: api.KText}, "Text"}, {api.Term{Kind: api.KId, Text: "a"}, "Id"},
		{api.Term{Kind: api.KList}, "List"}, {api.Term{Kind: api.KMap}, "Map"}, {api.Term{Kind: api.KVar, Text: "X", Sort: "Pgm"}, "Pgm"},
		{api.Term{Kind: api.KApp, Text: "nil"}, "Pgm"}, {api.Term{Kind: api.KApp, Text: "len"}, "Int"}, {api.Term{Kind: api.KApp, Text: "get"}, "Any"},
		{api.Term{Kind: api.KVar, Text: "X", Sort: "Nothing"}, ""}, {api.Term{Kind: api.KApp, Text: "nothing"}, ""}, {api.Term{}, ""},
	} {
		if got, ok := b.Sort(x.term); got != x.want || ok != (x.want != "") {
			t.Error(x.term, got, ok)
		}
	}
}

// A book says of well formed terms what package term says.
func TestTerms(t *testing.T) {
	b := opened(t)
	one, yes, x := api.Term{Kind: api.KInt, N: 1}, api.Term{Kind: api.KBool, N: 1}, api.Term{Kind: api.KVar, Text: "X", Sort: "Pgm"}
	count := [2]int{}
	for _, name := range []string{"plus", "nil", "len", "add", "nothing"} {
		for _, kids := range [][]api.Term{nil, {one}, {one, one}, {one, yes}, {x, one}, {{Kind: api.KList}}} {
			app := api.Term{Kind: api.KApp, Text: name, Kids: kids}
			for _, y := range []api.Term{app, {Kind: api.KMap, Kids: []api.Term{app, one}}, {Kind: api.KMap, Kids: []api.Term{one, app}}, {Kind: api.KMap, Kids: []api.Term{one, app, one, app}}} {
				fits, plain := term.Fits(base(), y), term.Plain(base(), y)
				if b.Fits(y) != fits || b.Plain(y) != plain {
					t.Error(y, b.Fits(y), fits, b.Plain(y), plain)
				}
				if fits {
					count[0]++
				}
				if plain {
					count[1]++
				}
			}
		}
	}
	if count[0] <= count[1] || count[1] < 4 {
		t.Error("few terms:", count)
	}
}

func TestOpenErrors(t *testing.T) {
	s := base()
	s.Values = []string{"Nothing"}
	if b, e := book.Open(s); b != nil || e != api.ErrArg {
		t.Error(b, e)
	}
}
