package term_test

import (
	"strings"
	"testing"

	"voussoir/api"
	"voussoir/term"
)

// wantFits says of terms whether they fit base's signature, by themselves and within others.
func wantFits(t *testing.T, want bool, terms ...api.Term) {
	t.Helper()
	for _, x := range terms {
		for _, y := range []api.Term{x, list(x), with(list(whole(1), x), "L"), table(x, whole(1)), table(whole(1), x), app("box", x), app("isvalue", x)} {
			if got := term.Fits(base(), y); got != want {
				t.Error(text(t, y), got)
			}
		}
	}
}

// P2.1: what an operator or function is given
func TestFits(t *testing.T) {
	wantFits(t, true,
		whole(1), truth(0), str(""), id("a"), list(), table(), with(list(), "L"), with(table(), "M"),
		app("nil"), app("any"), app("plus", whole(1), id("a")), app("plus'1", app("plus", whole(1), whole(2))),
		app("plus", app("nil"), whole(1)),                       // Pgm is above Exp
		app("plus", variable("X", "Pgm"), variable("Y", "Int")), // above, and below
		app("plus", app("any"), variable("_", "Any")),
		app("block", list(whole(1)), with(table(id("a"), str("b")), "M")),
		app("block", variable("L", "List"), variable("M", "Any")),
		app("len", list()), app("plus", app("len", variable("L", "List")), whole(1)),
		app("box", truth(1)), app("sole", app("box", list())),
		table(list(), whole(1)), table(whole(2), whole(0), whole(2), whole(0), whole(1), whole(0)),
	)
	wantFits(t, false,
		app("nothing"), app("Exp"), app("plus'2", whole(1)), app("add'1", whole(1)), app("nil", whole(1)),
		app("plus", whole(1)), app("plus", whole(1), whole(1), whole(1)), app("plus"), app("any", whole(1)), app("len"), app("len", list(), list()),
		app("plus", truth(1), whole(1)), app("plus", whole(1), truth(1)), app("plus", whole(1), str("a")), app("plus", list(), whole(1)), app("plus", whole(1), app("box", whole(1))),
		app("plus", variable("X", "Bool"), whole(1)), app("block", table(), list()), app("block", list(), variable("L", "List")), app("len", table()), app("len", whole(1)),
		app("sole", whole(1)), app("sole", app("nil")),
		app("plus", whole(1), app("plus", whole(1), truth(1))),
	)
}

// P2.1: the Sorts of variables exist
func TestFitsVariables(t *testing.T) {
	for _, sort := range []string{"Any", "Int", "Bool", "Text", "Id", "List", "Map", "Exp", "Pgm", "Alone"} {
		wantFits(t, true, variable("X", sort), app("box", variable("X", sort)))
	}
	for _, sort := range []string{"Nothing", "plus", "exp", "int"} {
		wantFits(t, false, variable("X", sort), app("box", variable("X", sort)), app("plus", whole(1), variable("X", sort)))
	}
	wantFits(t, true, variable("_", "Any"), variable("$", "Any"), list(variable("X", "Int"), variable("X", "Bool")))
}

// P2.1: each built-in function takes its arguments, and no others (chapter 3).
func TestFitsBuiltIn(t *testing.T) {
	of := map[string]api.Term{"Int": whole(1), "Bool": truth(1), "Text": str("a"), "List": list(), "Map": table(), "Id": id("a"), "Any": app("any")}
	for _, f := range builtIn() {
		var kids []api.Term
		for _, arg := range f.Args {
			kids = append(kids, of[arg])
		}
		wantFits(t, true, app(f.Name, kids...))
		wantFits(t, false, app(f.Name, append(kids[:len(kids):len(kids)], whole(1))...), app(f.Name, kids[1:]...))
		for i, arg := range f.Args {
			for sort, kid := range of {
				changed := append([]api.Term{}, kids...)
				changed[i] = kid
				wantFits(t, sort == arg || sort == "Any" || arg == "Any", app(f.Name, changed...))
			}
		}
	}
}

// builtIn returns the table of chapter 3.
func builtIn() []api.Op {
	var ops []api.Op
	add := func(names, result string, args ...string) {
		for _, name := range strings.Fields(names) {
			ops = append(ops, api.Op{Name: name, Args: args, Sort: result})
		}
	}
	add("add sub mul div mod", "Int", "Int", "Int")
	add("neg", "Int", "Int")
	add("lt le gt ge", "Bool", "Int", "Int")
	add("eq ne", "Bool", "Any", "Any")
	add("and or", "Bool", "Bool", "Bool")
	add("not", "Bool", "Bool")
	add("pick", "Any", "Bool", "Any", "Any")
	add("cat", "Text", "Text", "Text")
	add("length", "Int", "List")
	add("text", "Text", "Int")
	add("join", "List", "List", "List")
	add("get", "Any", "Map", "Any")
	add("put", "Map", "Map", "Any", "Any")
	add("has", "Bool", "Map", "Any")
	add("del", "Map", "Map", "Any")
	add("keys", "List", "Map")
	add("size", "Int", "Map")
	add("is", "Bool", "Any", "Text")
	add("isvalue", "Bool", "Any")
	return ops
}

// P2.1: no term fits a signature that is not valid, and none that is ill formed fits.
func TestFitsInvalid(t *testing.T) {
	for i, s := range invalid() {
		if term.Fits(s, whole(1)) || term.Plain(s, whole(1)) {
			t.Error("signature", i)
		}
	}
	for i, x := range illFormed() {
		if term.Fits(base(), x) || term.Plain(base(), x) {
			t.Error("term", i)
		}
	}
	if !term.Fits(api.Sig{}, whole(1)) || !term.Plain(api.Sig{}, whole(1)) || term.Fits(api.Sig{}, app("nil")) {
		t.Error("nothing is declared")
	}
}

// wantPlain says of terms whether they are plain in base's signature, by themselves and within others.
func wantPlain(t *testing.T, want bool, terms ...api.Term) {
	t.Helper()
	for _, x := range terms {
		for _, y := range []api.Term{x, list(whole(1), x), table(whole(1), x), app("box", x), list(list(x), table(id("a"), x))} {
			if got := term.Plain(base(), y); got != want {
				t.Error(text(t, y), got)
			}
		}
	}
}

// P2.1: plain terms
func TestPlain(t *testing.T) {
	wantPlain(t, true,
		whole(-3), truth(1), str("a b"), id("a"), list(), list(whole(1), str("a"), list()), table(), app("nil"),
		app("plus", whole(1), id("a")), app("plus", app("plus", id("a"), whole(1)), app("plus'1", whole(2))),
		app("block", list(whole(1), truth(0)), table(whole(1), app("nil"))), app("sole", app("box", app("nil"))),
	)
	wantPlain(t, false,
		variable("X", "Int"), variable("_", "Any"), variable("$", "Any"), with(list(), "L"), with(table(), "M"), with(list(whole(1)), "L"),
		app("len", list()), app("any"), app("add", whole(1), whole(2)), app("plus", app("len", list()), whole(1)), app("plus", app("add", whole(1), whole(1)), whole(1)),
		app("nothing"), app("plus'2", whole(1)), app("plus", whole(1)), app("plus", whole(1), whole(1), whole(1)), app("nil", whole(1)),
		app("plus", app("nil"), whole(1)), // Pgm meets Exp, and is not at most it
		app("plus", whole(1), app("nil")), app("plus", whole(1), truth(1)), app("plus", str("a"), whole(1)), app("plus'1", list()),
		app("sole", whole(1)), app("block", table(), list()),
	)
}

// P2.1: keys of plain maps
func TestPlainKeys(t *testing.T) {
	wantPlain(t, true,
		table(whole(1), whole(0)), table(str("a"), whole(0)), table(id("a"), whole(0)),
		table(whole(-5), whole(0), whole(0), whole(0), whole(10), whole(0), str(""), whole(0), str("a"), whole(0), str("b"), whole(0), id("a"), whole(0), id("b"), whole(0)),
		table(str("B"), whole(0), str("a"), whole(0), str("aa"), whole(0)),
	)
	wantPlain(t, false,
		table(truth(1), whole(0)), table(list(), whole(0)), table(table(), whole(0)), table(app("nil"), whole(0)), table(app("plus", whole(1), whole(2)), whole(0)), table(variable("X", "Int"), whole(0)),
		table(whole(1), whole(0), whole(1), whole(1)), table(str("a"), whole(0), str("a"), whole(0)), table(id("a"), whole(0), id("a"), whole(0)),
		table(whole(2), whole(0), whole(1), whole(0)), table(whole(1), whole(0), whole(-1), whole(0)), table(str("b"), whole(0), str("a"), whole(0)), table(str("a"), whole(0), str("B"), whole(0)), table(id("b"), whole(0), id("a"), whole(0)),
		table(str("a"), whole(0), whole(1), whole(0)), table(id("a"), whole(0), whole(1), whole(0)), table(id("a"), whole(0), str("b"), whole(0)),
		table(whole(1), whole(0), whole(2), whole(0), whole(2), whole(0)), table(whole(1), whole(0), truth(1), whole(0)),
		table(whole(1), variable("X", "Int")), table(whole(1), app("len", list())),
	)
}

// P2.1: plain terms as large and as deep as may be
func TestPlainLimits(t *testing.T) {
	for i, x := range []struct {
		term api.Term
		want bool
	}{
		{many(api.MaxSize - 1), true}, {many(api.MaxSize), false},
		{nested(api.MaxNest-1, whole(1)), true}, {nested(api.MaxNest, whole(1)), false},
	} {
		if got := term.Plain(base(), x.term); got != x.want {
			t.Error(i, got)
		}
		if got := term.Fits(base(), x.term); got != x.want {
			t.Error(i, got)
		}
	}
}

// P2.2
func TestSort(t *testing.T) {
	for _, x := range []struct {
		term api.Term
		want string
	}{
		{whole(1), "Int"}, {truth(0), "Bool"}, {str("Exp"), "Text"}, {id("a"), "Id"}, {list(whole(1)), "List"}, {with(list(), "L"), "List"}, {table(), "Map"}, {with(table(), "M"), "Map"},
		{app("plus", whole(1), whole(2)), "Exp"}, {app("plus'1", whole(1)), "Exp"}, {app("nil"), "Pgm"}, {app("box", whole(1)), "Alone"},
		{app("len", list()), "Int"}, {app("any"), "Any"},
		{variable("X", "Int"), "Int"}, {variable("X", "Pgm"), "Pgm"}, {variable("_", "Any"), "Any"}, {variable("$", "Any"), "Any"},
		{app("plus"), "Exp"}, {app("plus", truth(1), app("nothing")), "Exp"}, // what is within does not matter
		{list(variable("X", "Nothing"), app("nothing")), "List"},
	} {
		s := base()
		if got, e := term.Sort(s, x.term); got != x.want || e != api.OK {
			t.Error(text(t, x.term), got, e)
		}
	}
	for _, f := range builtIn() {
		if got, e := term.Sort(base(), app(f.Name)); got != f.Sort || e != api.OK {
			t.Error(f.Name, got, e)
		}
	}
}

// P2.2: errors
func TestSortErrors(t *testing.T) {
	for _, x := range []api.Term{app("nothing"), app("plus'2"), app("add'1"), app("Exp"), variable("X", "Nothing"), variable("X", "plus"), variable("plus", "exp")} {
		if got, e := term.Sort(base(), x); got != "" || e != api.ErrName {
			t.Error(text(t, x), got, e)
		}
		for i, s := range invalid() {
			if got, e := term.Sort(s, x); got != "" || e != api.ErrArg {
				t.Error(i, text(t, x), got, e)
			}
		}
	}
	for i, x := range illFormed() {
		if got, e := term.Sort(base(), x); got != "" || e != api.ErrArg {
			t.Error(i, got, e)
		}
	}
}

// P2.9
func TestValue(t *testing.T) {
	for _, x := range []struct {
		term api.Term
		want bool
	}{
		{whole(1), true}, {app("box", truth(1)), true}, {app("sole", app("box", whole(1))), true},
		{id("a"), false}, {truth(1), false}, {str("a"), false}, {list(), false}, {table(), false}, {list(whole(1)), false}, {app("plus", whole(1), whole(2)), false}, {app("nil"), false},
	} {
		if got, e := term.Value(base(), x.term); got != x.want || e != api.OK {
			t.Error(text(t, x.term), got, e)
		}
	}
}

// P2.9: Values of other sorts
func TestValues(t *testing.T) {
	for _, x := range []struct {
		values []string
		term   api.Term
		want   bool
	}{
		{[]string{"Pgm"}, whole(1), true},
		{[]string{"Pgm"}, id("a"), true},
		{[]string{"Pgm"}, app("plus", whole(1), whole(2)), true},
		{[]string{"Pgm"}, truth(1), false},
		{[]string{"Exp"}, app("nil"), false},
		{[]string{"Bool", "List"}, list(), true},
		{[]string{"Bool", "List"}, truth(0), true},
		{[]string{"Bool", "List"}, table(), false},
		{[]string{"Any"}, table(), true},
		{nil, whole(1), false},
	} {
		s := base()
		s.Values = x.values
		if got, e := term.Value(s, x.term); got != x.want || e != api.OK {
			t.Error(x.values, text(t, x.term), got, e)
		}
	}
}

// P2.9: errors
func TestValueErrors(t *testing.T) {
	for _, x := range []api.Term{variable("X", "Int"), app("len", list()), app("add", whole(1), whole(1)), app("nothing"), app("plus", whole(1)), app("plus", app("nil"), whole(1)), with(list(), "L"), table(whole(2), whole(0), whole(1), whole(0))} {
		if got, e := term.Value(base(), x); got || e != api.ErrArg {
			t.Error(text(t, x), got, e)
		}
	}
	for i, x := range illFormed() {
		if got, e := term.Value(base(), x); got || e != api.ErrArg {
			t.Error(i, got, e)
		}
	}
	for i, s := range invalid() {
		if got, e := term.Value(s, whole(1)); got || e != api.ErrArg {
			t.Error(i, got, e)
		}
	}
}
