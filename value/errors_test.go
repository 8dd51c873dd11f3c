package value_test

import (
	"testing"

	"voussoir/api"
	"voussoir/term"
	"voussoir/value"
)

// P3.2: ErrArg comes first.
func TestNotValid(t *testing.T) {
	for _, s := range invalid() {
		wantError(t, s, api.ErrArg, of("add", "", whole(1), whole(2)), of("nothing", ""), of("add", ""), of("add", "", list(), list()), of("div", "", whole(1), whole(0)))
	}
	for _, x := range []api.Term{
		{}, whole(most + 1), whole(-most - 1), truth(2), str("\""), str(letters(201)), id("A"), variable("X", "Int"), variable("_", "Any"), with(list(), "L"), with(table(), "M"), list(variable("X", "Int")),
		app("add", whole(1), whole(2)), app("len", list()), app("nothing"), app("nil", whole(1)), app("plus", whole(1), truth(1)), app("plus", app("nil"), whole(1)),
		table(whole(1)), table(whole(2), whole(0), whole(1), whole(0)), table(whole(1), whole(0), whole(1), whole(0)), table(truth(1), whole(0)),
		many(api.MaxSize), nested(api.MaxNest, whole(1)),
	} {
		wantError(t, base(), api.ErrArg,
			of("isvalue", "", x), of("eq", "", x, whole(1)), of("eq", "", whole(1), x), of("pick", "", truth(1), whole(1), x), of("put", "", table(), whole(1), x),
			of("nothing", "", x), of("add", "", x), of("add", "", whole(1), whole(2), x), of("add", "", list(), x), of("get", "", table(), x), of("put", "", table(), list(), x), of("is", "", x, str("Nothing")),
		)
	}
}

// P3.2: ErrNone of what is no built-in function comes before ErrKind and ErrSort.
func TestNoFunction(t *testing.T) {
	for _, name := range others() {
		wantError(t, base(), api.ErrNone, of(name, ""), of(name, "", whole(1), whole(2)), of(name, "", list()))
	}
}

// atMostAll returns plain terms of the sorts of arguments.
func atMostAll(args []string) []api.Term {
	terms := map[string]api.Term{"Int": whole(1), "Bool": truth(1), "Text": str("Int"), "List": list(), "Map": table(whole(1), whole(2)), "Any": whole(1)}
	var l []api.Term
	for _, sort := range args {
		l = append(l, terms[sort])
	}
	return l
}

// P3.2: ErrKind comes before ErrSort.
func TestNumberOfArguments(t *testing.T) {
	for _, f := range builtIn() {
		args := atMostAll(f.Args)
		if _, e := value.Apply(base(), f.Name, args); e != api.OK {
			t.Error(f.Name, args, e)
		}
		more := append(append([]api.Term{}, args...), whole(1))
		wantError(t, base(), api.ErrKind, of(f.Name, ""), of(f.Name, "", args[1:]...), of(f.Name, "", more...), of(f.Name, "", app("nil"), app("nil"), app("nil"), app("nil")))
	}
}

// P3.2: ErrSort for each argument, and each sort that is not at most its own; it comes before the errors of the table.
func TestSorts(t *testing.T) {
	terms := map[string]api.Term{"Int": whole(1), "Bool": truth(1), "Text": str("Int"), "Id": id("a"), "List": list(), "Map": table(whole(1), whole(2)), "Exp": app("plus", whole(1), whole(2)), "Alone": app("box", whole(1))}
	for _, f := range builtIn() {
		for i, arg := range f.Args {
			for sort, x := range terms {
				args := atMostAll(f.Args)
				args[i] = x
				_, e := value.Apply(base(), f.Name, args)
				if fits := sort == arg || arg == "Any"; fits == (e == api.ErrSort) {
					t.Error(f.Name, i, sort, e)
				}
			}
		}
	}
	wantError(t, base(), api.ErrSort,
		of("div", "", list(), whole(0)), of("mod", "", truth(1), whole(0)), of("add", "", whole(most), str("1")), of("put", "", list(), list(), whole(1)), of("get", "", list(), whole(0)),
		of("is", "", whole(1), id("a")), of("is", "", str("Int"), whole(1)), of("cat", "", str(letters(200)), id("a")), of("pick", "", whole(1), whole(1), whole(1)),
	)
}

// P3.2: ErrLimit of a result that is too large
func TestTooLarge(t *testing.T) {
	joined := apply(t, "join", many(999), many(1000))
	if n, e := term.Size(joined); n != api.MaxSize || e != api.OK {
		t.Error(n, e)
	}
	full := apply(t, "put", numbered(998), id("a"), list(whole(1)))
	if n, e := term.Size(full); n != api.MaxSize || e != api.OK {
		t.Error(n, e)
	}
	if n, e := term.Size(apply(t, "put", full, id("a"), list(whole(2)))); n != api.MaxSize || e != api.OK {
		t.Error(n, e)
	}
	if n, e := term.Size(apply(t, "put", table(), whole(1), many(1997))); n != api.MaxSize || e != api.OK {
		t.Error(n, e)
	}
	wantError(t, base(), api.ErrLimit,
		of("join", "", many(1000), many(1000)), of("join", "", many(1999), list(whole(1))), of("join", "", list(whole(1)), many(1999)), of("join", "", many(1999), many(1999)),
		of("put", "", numbered(999), whole(-1), whole(1)), of("put", "", table(), whole(1), many(1998)), of("put", "", full, id("a"), list(whole(1), whole(2))),
	)
	wantError(t, base(), api.ErrKind, of("put", "", numbered(999), truth(1), many(10)))
}

// P3.2: ErrLimit of a result that is too deep
func TestTooDeep(t *testing.T) {
	deep := apply(t, "put", table(), whole(1), nested(api.MaxNest-2, whole(1)))
	if n, e := term.Depth(deep); n != api.MaxNest || e != api.OK {
		t.Error(n, e)
	}
	deepest := nested(api.MaxNest-1, whole(1))
	wantError(t, base(), api.ErrLimit, of("put", "", table(), whole(1), deepest), of("put", "", deep, whole(1), deepest), of("put", "", deep, whole(0), deepest))
	wantError(t, base(), api.ErrKind, of("put", "", table(), list(), deepest))
	wantResults(t, of("eq", "true", deepest, deepest), of("length", "1", deepest), of("get", text(t, deepest.Kids[0]), table(id("a"), deepest.Kids[0]), id("a")), of("join", text(t, deepest), deepest, list()))
}

// Rule 3: no argument is changed or kept, and the result shares no memory with one.
func TestMemory(t *testing.T) {
	inner := func() api.Term { return list(app("plus", whole(1), whole(2)), table(whole(1), list(whole(3)))) }
	for _, x := range []struct {
		name string
		args func() []api.Term
	}{
		{"pick", func() []api.Term { return []api.Term{truth(1), inner(), inner()} }},
		{"pick", func() []api.Term { return []api.Term{truth(0), inner(), inner()} }},
		{"join", func() []api.Term { return []api.Term{inner(), inner()} }},
		{"join", func() []api.Term { return []api.Term{inner(), list()} }},
		{"get", func() []api.Term { return []api.Term{table(id("a"), inner(), id("b"), inner()), id("b")} }},
		{"put", func() []api.Term { return []api.Term{table(id("a"), inner(), id("c"), inner()), id("b"), inner()} }},
		{"put", func() []api.Term { return []api.Term{table(id("a"), inner(), id("c"), inner()), id("a"), inner()} }},
		{"del", func() []api.Term { return []api.Term{table(id("a"), inner(), id("c"), inner()), id("a")} }},
		{"del", func() []api.Term { return []api.Term{table(id("a"), inner(), id("c"), inner()), id("b")} }},
		{"keys", func() []api.Term { return []api.Term{table(id("a"), inner(), id("c"), inner())} }},
	} {
		args := x.args()
		got := apply(t, x.name, args...)
		want := text(t, got)
		if !term.Same(list(args...), list(x.args()...)) {
			t.Error(x.name, "changes its arguments:", args)
		}
		spoil(args)
		if text(t, got) != want {
			t.Error(x.name, "gives what arguments hold:", got)
		}
		args = x.args()
		spoil([]api.Term{apply(t, x.name, args...)})
		if !term.Same(list(args...), list(x.args()...)) {
			t.Error(x.name, "gives memory of its arguments:", args)
		}
	}
}

// Rule 3: parts of one result share no memory either, even if the arguments do.
func TestPartsOfOne(t *testing.T) {
	x := list(whole(1))
	got := apply(t, "join", list(x, x), list(x))
	got.Kids[0].Kids[0] = whole(2)
	if s := text(t, got); s != "[[2], [1], [1]]" {
		t.Error(s)
	}
}
