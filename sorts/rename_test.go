package sorts_test

import (
	"testing"

	"voussoir/api"
	"voussoir/sorts"
)

// P1.7: a sort and an operator of one name are both exchanged, wherever their names are meant; a string stays.
func TestRename(t *testing.T) {
	want := api.Sig{
		Sorts: []string{"New", "Pgm", "Alone"},
		Below: []api.Below{{Low: "Int", High: "New"}, {Low: "Id", High: "New"}, {Low: "New", High: "Pgm"}, {Low: "Bool", High: "Pgm"}},
		Ops: []api.Op{
			{
				Name: "plus", Args: []string{"New", "New"}, Sort: "New",
				Pieces: []api.Piece{{Sort: "New"}, {Text: "+"}, {Sort: "New"}},
				Prec:   5, Assoc: api.AssocLeft, Strict: []int{2, 1},
			},
			{Name: "plus'1", Args: []string{"New"}, Sort: "New"},
			{Name: "nil", Sort: "Pgm"},
			{Name: "New", Args: []string{"Pgm"}, Sort: "Alone", Pieces: []api.Piece{{Text: "Exp"}, {Sort: "Pgm"}}},
		},
		Funs: []api.Op{
			{Name: "len", Args: []string{"List", "New"}, Sort: "Int"},
			{Name: "top", Sort: "New"},
		},
		Values: []string{"Int", "New"},
	}
	s := base()
	for _, pair := range [][2]string{{"Exp", "New"}, {"New", "Exp"}} {
		if got, e := sorts.Rename(s, pair[0], pair[1]); !sorts.Same(got, want) || e != api.OK {
			t.Error(pair, got, e)
		}
	}
	wantUnchanged(t, s)
}

// P1.7: two sorts
func TestRenameSorts(t *testing.T) {
	want := base()
	want.Sorts = []string{"Exp", "Alone", "Pgm"}
	want.Below[2].High, want.Below[3].High = "Alone", "Alone"
	want.Ops[2].Sort = "Alone"
	want.Ops[3].Args[0], want.Ops[3].Sort, want.Ops[3].Pieces[1].Sort = "Alone", "Pgm", "Alone"
	if got, e := sorts.Rename(base(), "Pgm", "Alone"); !sorts.Same(got, want) || e != api.OK {
		t.Error(got, e)
	}
}

// P1.7: operators with their frames, and functions
func TestRenameOps(t *testing.T) {
	want := base()
	want.Ops[0].Name, want.Ops[1].Name, want.Funs[0].Name = "len", "len'1", "plus"
	if got, e := sorts.Rename(base(), "plus", "len"); !sorts.Same(got, want) || e != api.OK {
		t.Error(got, e)
	}
	frame := api.Sig{Sorts: []string{"Exp"}, Ops: []api.Op{{Name: "f'1", Sort: "Exp"}, {Name: "f'2", Sort: "Exp"}, {Name: "g'2", Sort: "Exp"}}}
	want = api.Sig{Sorts: []string{"Exp"}, Ops: []api.Op{{Name: "g'1", Sort: "Exp"}, {Name: "g'2", Sort: "Exp"}, {Name: "f'2", Sort: "Exp"}}}
	if got, e := sorts.Rename(frame, "f", "g"); !sorts.Same(got, want) || e != api.OK {
		t.Error(got, e)
	}
}

// P1.7: names that are always there or built in are not those of declared ones.
func TestRenameGiven(t *testing.T) {
	want := base()
	want.Ops[2].Name = "Int"
	if got, e := sorts.Rename(base(), "nil", "Int"); !sorts.Same(got, want) || e != api.OK {
		t.Error("nil Int", got, e)
	}
	if got, e := sorts.Rename(want, "nil", "Int"); !sorts.Same(got, base()) || e != api.OK {
		t.Error("nil Int back", got, e)
	}
	for _, pair := range [][2]string{{"Int", "New"}, {"add", "New"}, {"Int", "Map"}, {"add", "sub"}, {"old", "New"}, {"Exp", "Exp"}, {"plus", "plus"}} {
		if got, e := sorts.Rename(base(), pair[0], pair[1]); !sorts.Same(got, base()) || e != api.OK {
			t.Error(pair, got, e)
		}
	}
}

// P1.7: errors
func TestRenameErrors(t *testing.T) {
	for _, pair := range [][2]string{{"Exp", "Int"}, {"Any", "Exp"}, {"Map", "Alone"}, {"plus", "add"}, {"isvalue", "plus"}, {"len", "pick"}} {
		if got, e := sorts.Rename(base(), pair[0], pair[1]); !sorts.Same(got, api.Sig{}) || e != api.ErrTwice {
			t.Error(pair, got, e)
		}
	}
	for _, pair := range [][2]string{{"", "Exp"}, {"Exp", ""}, {"plus'1", "f"}, {"f", "plus'1"}, {"1", "Exp"}, {"Exp", "_"}, {"Exp", letters(api.MaxName + 1)}} {
		if got, e := sorts.Rename(base(), pair[0], pair[1]); !sorts.Same(got, api.Sig{}) || e != api.ErrArg {
			t.Error(pair, got, e)
		}
	}
	for i, s := range invalid() {
		for _, name := range []string{"New", "Int"} {
			if got, e := sorts.Rename(s, "Exp", name); !sorts.Same(got, api.Sig{}) || e != api.ErrArg {
				t.Error(i, name, got, e)
			}
		}
	}
}

// P1.7: a result shares no memory with an argument (rule 3), also where no name is exchanged.
func TestRenameIsNew(t *testing.T) {
	s := base()
	got, _ := sorts.Rename(s, "old", "New")
	got.Sorts[0], got.Below[0].Low, got.Values[0] = "x", "x", "x"
	op, fun := &got.Ops[0], &got.Funs[0]
	op.Name, op.Args[0], op.Pieces[1].Text, op.Strict[0] = "x", "x", "x", 9
	fun.Name, fun.Args[0] = "x", "x"
	wantUnchanged(t, s)
}
