package sorts_test

import (
	"slices"
	"testing"

	"voussoir/api"
	"voussoir/sorts"
)

// The example of the chapter
func TestExample(t *testing.T) {
	s := api.Sig{Sorts: []string{"Exp"}, Below: []api.Below{{Low: "Int", High: "Exp"}}}
	if got, e := sorts.AtMost(s, "Int", "Exp"); !got || e != api.OK {
		t.Error("Int Exp", got, e)
	}
	if got, e := sorts.AtMost(s, "Exp", "Int"); got || e != api.OK {
		t.Error("Exp Int", got, e)
	}
	if got, e := sorts.Above(s, "Int"); !slices.Equal(got, []string{"Any", "Exp", "Int"}) || e != api.OK {
		t.Error("above", got, e)
	}
}

// P1.2
func TestAtMostAndMeet(t *testing.T) {
	for _, x := range []struct {
		a, b         string
		atMost, meet bool
	}{
		{"Int", "Exp", true, true},
		{"Exp", "Int", false, true},
		{"Int", "Pgm", true, true},
		{"Pgm", "Id", false, true},
		{"Exp", "Exp", true, true},
		{"Int", "Int", true, true},
		{"Any", "Any", true, true},
		{"Map", "Any", true, true},
		{"Any", "Map", false, true},
		{"Alone", "Any", true, true},
		{"Any", "Alone", false, true},
		{"Bool", "Exp", false, false},
		{"Int", "Id", false, false},
		{"Alone", "Pgm", false, false},
		{"List", "Map", false, false},
	} {
		s := base()
		if got, e := sorts.AtMost(s, x.a, x.b); got != x.atMost || e != api.OK {
			t.Error("AtMost", x.a, x.b, got, e)
		}
		if got, e := sorts.Meet(s, x.a, x.b); got != x.meet || e != api.OK {
			t.Error("Meet", x.a, x.b, got, e)
		}
		wantUnchanged(t, s)
	}
}

// P1.2: errors
func TestAtMostAndMeetErrors(t *testing.T) {
	for _, pair := range [][2]string{{"Nothing", "Exp"}, {"Exp", "Nothing"}, {"Nothing", "Nothing"}, {"Nothing", "Any"}, {"", "Exp"}, {"Exp", ""}, {"plus", "Exp"}, {"Exp", "len"}} {
		if got, e := sorts.AtMost(base(), pair[0], pair[1]); got || e != api.ErrName {
			t.Error("AtMost", pair, got, e)
		}
		if got, e := sorts.Meet(base(), pair[0], pair[1]); got || e != api.ErrName {
			t.Error("Meet", pair, got, e)
		}
	}
	for i, s := range invalid() {
		for _, name := range []string{"Int", "Nothing"} {
			if got, e := sorts.AtMost(s, name, "Int"); got || e != api.ErrArg {
				t.Error("AtMost", i, name, got, e)
			}
			if got, e := sorts.Meet(s, name, "Int"); got || e != api.ErrArg {
				t.Error("Meet", i, name, got, e)
			}
		}
	}
}

// P1.3: Exists
func TestExists(t *testing.T) {
	for _, name := range []string{"Any", "Int", "Bool", "Text", "Id", "List", "Map", "Exp", "Pgm", "Alone"} {
		if got, e := sorts.Exists(base(), name); !got || e != api.OK {
			t.Error(name, got, e)
		}
	}
	for _, name := range []string{"", "Nothing", "exp", "plus", "len", "int", "Int "} {
		if got, e := sorts.Exists(base(), name); got || e != api.OK {
			t.Error(name, got, e)
		}
	}
	for i, s := range invalid() {
		if got, e := sorts.Exists(s, "Int"); got || e != api.ErrArg {
			t.Error(i, got, e)
		}
	}
}

// P1.3: Find and Fun
func TestFindAndFun(t *testing.T) {
	for _, op := range base().Ops {
		if got, e := sorts.Find(base(), op.Name); !sameOp(got, op) || e != api.OK {
			t.Error("Find", op.Name, got, e)
		}
		if got, e := sorts.Fun(base(), op.Name); !sameOp(got, api.Op{}) || e != api.ErrNone {
			t.Error("Fun", op.Name, got, e)
		}
	}
	for _, f := range base().Funs {
		if got, e := sorts.Fun(base(), f.Name); !sameOp(got, f) || e != api.OK {
			t.Error("Fun", f.Name, got, e)
		}
		if got, e := sorts.Find(base(), f.Name); !sameOp(got, api.Op{}) || e != api.ErrNone {
			t.Error("Find", f.Name, got, e)
		}
	}
}

// P1.3: errors
func TestFindAndFunErrors(t *testing.T) {
	for _, name := range []string{"", "add", "Pgm", "nothing", "plus'2", "'"} {
		if got, e := sorts.Find(base(), name); !sameOp(got, api.Op{}) || e != api.ErrNone {
			t.Error("Find", name, got, e)
		}
		if got, e := sorts.Fun(base(), name); !sameOp(got, api.Op{}) || e != api.ErrNone {
			t.Error("Fun", name, got, e)
		}
	}
	for i, s := range invalid() {
		for _, name := range []string{"nil", "top", "nothing"} {
			if got, e := sorts.Find(s, name); !sameOp(got, api.Op{}) || e != api.ErrArg {
				t.Error("Find", i, name, got, e)
			}
			if got, e := sorts.Fun(s, name); !sameOp(got, api.Op{}) || e != api.ErrArg {
				t.Error("Fun", i, name, got, e)
			}
		}
	}
}

// P1.3: a result shares no memory with an argument (rule 3).
func TestFindIsNew(t *testing.T) {
	s := base()
	op, _ := sorts.Find(s, "plus")
	op.Args[0], op.Pieces[1].Text, op.Strict[0] = "Any", "-", 7
	fun, _ := sorts.Fun(s, "len")
	fun.Args[0] = "Any"
	wantUnchanged(t, s)
}

// P1.4
func TestAboveAndUnder(t *testing.T) {
	for _, x := range []struct {
		name         string
		above, under []string
	}{
		{"Int", []string{"Any", "Exp", "Int", "Pgm"}, []string{"Int"}},
		{"Exp", []string{"Any", "Exp", "Pgm"}, []string{"Exp", "Id", "Int"}},
		{"Pgm", []string{"Any", "Pgm"}, []string{"Bool", "Exp", "Id", "Int", "Pgm"}},
		{"Alone", []string{"Alone", "Any"}, []string{"Alone"}},
		{"List", []string{"Any", "List"}, []string{"List"}},
		{"Any", []string{"Any"}, allSorts(base())},
	} {
		s := base()
		if got, e := sorts.Above(s, x.name); !slices.Equal(got, x.above) || e != api.OK {
			t.Error("Above", x.name, got, e)
		}
		if got, e := sorts.Under(s, x.name); !slices.Equal(got, x.under) || e != api.OK {
			t.Error("Under", x.name, got, e)
		}
		wantUnchanged(t, s)
	}
}

// P1.4: sorts rise by their bytes, capital letters first.
func TestAboveRises(t *testing.T) {
	s := api.Sig{Sorts: []string{"b", "Z", "a", "A_", "A1", "A"}}
	for _, name := range s.Sorts {
		s.Below = append(s.Below, api.Below{Low: "Int", High: name})
	}
	if got, e := sorts.Above(s, "Int"); !slices.Equal(got, []string{"A", "A1", "A_", "Any", "Int", "Z", "a", "b"}) || e != api.OK {
		t.Error(got, e)
	}
}

// P1.4: errors
func TestAboveAndUnderErrors(t *testing.T) {
	for _, name := range []string{"", "Nothing", "plus", "len"} {
		if got, e := sorts.Above(base(), name); len(got) != 0 || e != api.ErrName {
			t.Error("Above", name, got, e)
		}
		if got, e := sorts.Under(base(), name); len(got) != 0 || e != api.ErrName {
			t.Error("Under", name, got, e)
		}
	}
	for i, s := range invalid() {
		for _, name := range []string{"Int", "Nothing"} {
			if got, e := sorts.Above(s, name); len(got) != 0 || e != api.ErrArg {
				t.Error("Above", i, name, got, e)
			}
			if got, e := sorts.Under(s, name); len(got) != 0 || e != api.ErrArg {
				t.Error("Under", i, name, got, e)
			}
		}
	}
}

// P1.5
func TestValue(t *testing.T) {
	for _, x := range []struct {
		values []string
		name   string
		want   bool
	}{
		{[]string{"Exp"}, "Exp", true},
		{[]string{"Exp"}, "Int", true},
		{[]string{"Exp"}, "Pgm", false},
		{[]string{"Exp"}, "Any", false},
		{[]string{"Map", "Pgm"}, "Id", true},
		{[]string{"Map", "Pgm"}, "Map", true},
		{[]string{"Map", "Pgm"}, "List", false},
		{[]string{"Any"}, "Alone", true},
		{[]string{"Any"}, "Any", true},
		{nil, "Int", false},
	} {
		s := base()
		s.Values = x.values
		if got, e := sorts.Value(s, x.name); got != x.want || e != api.OK {
			t.Error(x, got, e)
		}
	}
}

// P1.5: errors
func TestValueErrors(t *testing.T) {
	for _, name := range []string{"", "Nothing", "plus"} {
		if got, e := sorts.Value(base(), name); got || e != api.ErrName {
			t.Error(name, got, e)
		}
	}
	for i, s := range invalid() {
		for _, name := range []string{"Int", "Nothing"} {
			if got, e := sorts.Value(s, name); got || e != api.ErrArg {
				t.Error(i, name, got, e)
			}
		}
	}
}

// P1.6: BuiltIn
func TestBuiltIn(t *testing.T) {
	for _, name := range []string{
		"add", "sub", "mul", "div", "mod", "neg", "lt", "le", "gt", "ge", "eq", "ne", "and", "or", "not", "pick",
		"cat", "length", "text", "join", "get", "put", "has", "del", "keys", "size", "is", "isvalue",
	} {
		if !sorts.BuiltIn(name) {
			t.Error(name)
		}
	}
	for _, name := range []string{"", "if", "Add", "add ", "ad", "addd", "plus", "Int", "is value", "add'1", "values"} {
		if sorts.BuiltIn(name) {
			t.Error(name)
		}
	}
}

// P1.6: IsName
func TestIsName(t *testing.T) {
	for _, s := range []string{"a", "z", "A", "Z", "a0", "a9", "aZ", "a_", "a__1", "true", "language", letters(api.MaxName)} {
		if !sorts.IsName(s) {
			t.Error(s)
		}
	}
	for _, s := range []string{"", "_", "_a", "0", "9a", "a'1", "'a", "a b", " a", "a ", "a-b", "$", "@a", "[a", "`a", "{a", "a@", "a[", "a`", "a{", "a/", "a:", "é", "aé", "a\x00", "a\xff", "ａ", letters(api.MaxName + 1), letters(1 << 20)} {
		if sorts.IsName(s) {
			t.Error(s)
		}
	}
}

// P1.6: Same
func TestSame(t *testing.T) {
	if !sorts.Same(base(), base()) || !sorts.Same(api.Sig{}, api.Sig{}) {
		t.Error("the same")
	}
	empty := api.Sig{Sorts: []string{}, Below: []api.Below{}, Ops: []api.Op{}, Funs: []api.Op{}, Values: []string{}}
	if !sorts.Same(api.Sig{}, empty) || !sorts.Same(empty, api.Sig{}) {
		t.Error("nil is the same as empty")
	}
	none := api.Op{Args: []string{}, Pieces: []api.Piece{}, Strict: []int{}}
	if !sameOp(api.Op{}, none) || !sameOp(none, api.Op{}) {
		t.Error("nil of an operator is the same as empty")
	}
	for i, s := range invalid() {
		if !sorts.Same(s, s) || sorts.Same(s, base()) {
			t.Error("invalid", i)
		}
	}
}

// P1.6: each field that differs, of a signature and of what it has
func TestSameDiffers(t *testing.T) {
	for i, change := range []func(s *api.Sig){
		func(s *api.Sig) { s.Sorts[1] = "New" },
		func(s *api.Sig) { s.Sorts = s.Sorts[:2] },
		func(s *api.Sig) { s.Sorts[0], s.Sorts[1] = s.Sorts[1], s.Sorts[0] },
		func(s *api.Sig) { s.Below[0].Low = "Text" },
		func(s *api.Sig) { s.Below[0].High = "Pgm" },
		func(s *api.Sig) { s.Below = s.Below[1:] },
		func(s *api.Sig) { s.Ops = s.Ops[:3] },
		func(s *api.Sig) { s.Ops[0], s.Ops[1] = s.Ops[1], s.Ops[0] },
		func(s *api.Sig) { s.Ops[0].Name = "Plus" },
		func(s *api.Sig) { s.Ops[0].Args[1] = "Int" },
		func(s *api.Sig) { s.Ops[0].Args = s.Ops[0].Args[:1] },
		func(s *api.Sig) { s.Ops[0].Sort = "Pgm" },
		func(s *api.Sig) { s.Ops[0].Pieces[1].Text = "-" },
		func(s *api.Sig) { s.Ops[0].Pieces[0].Sort = "Int" },
		func(s *api.Sig) { s.Ops[0].Pieces = nil },
		func(s *api.Sig) { s.Ops[0].Prec = 6 },
		func(s *api.Sig) { s.Ops[0].Assoc = api.AssocRight },
		func(s *api.Sig) { s.Ops[0].Strict[1] = 2 },
		func(s *api.Sig) { s.Ops[0].Strict = nil },
		func(s *api.Sig) { s.Funs[0].Name = "Len" },
		func(s *api.Sig) { s.Funs = s.Funs[:1] },
		func(s *api.Sig) { s.Ops, s.Funs = s.Funs, s.Ops },
		func(s *api.Sig) { s.Values[0] = "Id" },
		func(s *api.Sig) { s.Values = append(s.Values, "Id") },
	} {
		s := base()
		change(&s)
		if sorts.Same(s, base()) || sorts.Same(base(), s) {
			t.Error("change", i)
		}
	}
}
