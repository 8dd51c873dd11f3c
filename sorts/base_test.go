package sorts_test

import (
	"slices"
	"strings"
	"testing"

	"voussoir/api"
	"voussoir/sorts"
)

// base returns a valid signature with something of everything. It is new memory at each call.
func base() api.Sig {
	return api.Sig{
		Sorts: []string{"Exp", "Pgm", "Alone"},
		Below: []api.Below{{Low: "Int", High: "Exp"}, {Low: "Id", High: "Exp"}, {Low: "Exp", High: "Pgm"}, {Low: "Bool", High: "Pgm"}},
		Ops: []api.Op{
			{
				Name: "plus", Args: []string{"Exp", "Exp"}, Sort: "Exp",
				Pieces: []api.Piece{{Sort: "Exp"}, {Text: "+"}, {Sort: "Exp"}},
				Prec:   5, Assoc: api.AssocLeft, Strict: []int{2, 1},
			},
			{Name: "plus'1", Args: []string{"Exp"}, Sort: "Exp"},
			{Name: "nil", Sort: "Pgm"},
			{Name: "Exp", Args: []string{"Pgm"}, Sort: "Alone", Pieces: []api.Piece{{Text: "Exp"}, {Sort: "Pgm"}}},
		},
		Funs: []api.Op{
			{Name: "len", Args: []string{"List", "Exp"}, Sort: "Int"},
			{Name: "top", Sort: "Exp"},
		},
		Values: []string{"Int", "Exp"},
	}
}

// invalid returns signatures that are not valid.
func invalid() []api.Sig {
	unknown, circle, twice := base(), base(), base()
	unknown.Values = []string{"Nothing"}
	circle.Below = append(circle.Below, api.Below{Low: "Pgm", High: "Exp"})
	twice.Funs[0].Name = "plus"
	return []api.Sig{unknown, circle, twice}
}

func letters(n int) string { return strings.Repeat("a", n) }

// sortNames returns n different names.
func sortNames(n int) []string {
	var names []string
	for i := range n {
		names = append(names, "S"+letters(i))
	}
	return names
}

func sameOp(a, b api.Op) bool {
	return sorts.Same(api.Sig{Ops: []api.Op{a}}, api.Sig{Ops: []api.Op{b}})
}

// wantUnchanged reports an argument that a call has changed.
func wantUnchanged(t *testing.T, s api.Sig) {
	t.Helper()
	if !sorts.Same(s, base()) {
		t.Error("the argument is changed:", s)
	}
}

// allSorts returns the sorts of a signature that exist, rising.
func allSorts(s api.Sig) []string {
	all := append([]string{"Any", "Int", "Bool", "Text", "Id", "List", "Map"}, s.Sorts...)
	slices.Sort(all)
	return all
}
