package sorts_test

import (
	"slices"
	"strconv"
	"strings"
	"testing"

	"voussoir/api"
	"voussoir/sorts"
)

// change is one of base's signature, and whether that is valid with it.
type change struct {
	name  string
	make  func(s *api.Sig)
	valid bool
}

func testChanges(t *testing.T, changes []change) {
	t.Helper()
	for _, c := range changes {
		s := base()
		c.make(&s)
		if got := sorts.Valid(s); got != c.valid {
			t.Errorf("%q: Valid is %v", c.name, got)
		}
	}
}

// P1.1, ordinary ones
func TestValid(t *testing.T) {
	if !sorts.Valid(base()) {
		t.Error("base")
	}
	if !sorts.Valid(api.Sig{}) {
		t.Error("nothing is declared")
	}
	for i, s := range invalid() {
		if sorts.Valid(s) {
			t.Error("invalid", i)
		}
	}
}

// P1.1: Sorts
func TestValidSorts(t *testing.T) {
	add := func(names ...string) func(*api.Sig) {
		return func(s *api.Sig) { s.Sorts = append(s.Sorts, names...) }
	}
	testChanges(t, []change{
		{"as many as there may be", add(sortNames(api.MaxSorts - 3)...), true},
		{"one too many", add(sortNames(api.MaxSorts - 2)...), false},
		{"twice", add("New", "New"), false},
		{"the name of an operator", add("plus"), true},
		{"the name of a built-in function", add("add"), true},
		{"a small letter", add("a_1"), true},
		{"empty", add(""), false},
		{"a digit first", add("1a"), false},
		{"_ first", add("_a"), false},
		{"a frame", add("a'1"), false},
		{"a letter beyond a byte", add("é"), false},
		{"the longest", add(letters(api.MaxName)), true},
		{"too long", add(letters(api.MaxName + 1)), false},
	})
	for _, name := range []string{"Any", "Int", "Bool", "Text", "Id", "List", "Map"} {
		testChanges(t, []change{{name, add(name), false}})
	}
}

// P1.1: Below
func TestValidBelow(t *testing.T) {
	add := func(pairs ...string) func(*api.Sig) {
		return func(s *api.Sig) {
			for i := 0; i < len(pairs); i += 2 {
				s.Below = append(s.Below, api.Below{Low: pairs[i], High: pairs[i+1]})
			}
		}
	}
	testChanges(t, []change{
		{"two above one", add("Exp", "Alone"), true},
		{"a way that is there", add("Int", "Pgm"), true},
		{"twice", add("Int", "Exp"), false},
		{"Any is low", add("Any", "Exp"), false},
		{"Any is high", add("Exp", "Any"), false},
		{"Int is high", add("Exp", "Int"), false},
		{"Map is high of one always there", add("Int", "Map"), false},
		{"no such low", add("Nothing", "Exp"), false},
		{"no such high", add("Exp", "Nothing"), false},
		{"empty", add("", ""), false},
		{"itself", add("Alone", "Alone"), false},
		{"a circle of two", add("Pgm", "Exp"), false},
		{"a circle of three", add("Pgm", "Alone", "Alone", "Exp"), false},
		{"a circle away from the rest", func(s *api.Sig) {
			s.Sorts = append(s.Sorts, "New")
			add("Alone", "New", "New", "Alone")(s)
		}, false},
	})
}

// declarations returns a signature with n declarations of Below, and no circle.
func declarations(n int) api.Sig {
	s := api.Sig{Sorts: sortNames(api.MaxSorts)}
	for i := range s.Sorts {
		for j := range i {
			if len(s.Below) < n {
				s.Below = append(s.Below, api.Below{Low: s.Sorts[i], High: s.Sorts[j]})
			}
		}
	}
	return s
}

// P1.1: how many Below there may be
func TestValidBelowLimit(t *testing.T) {
	if !sorts.Valid(declarations(200)) || sorts.Valid(declarations(201)) {
		t.Error("200 may be, 201 not")
	}
}

// P1.1: names of operators and functions
func TestValidNames(t *testing.T) {
	op := func(name string) func(*api.Sig) {
		return func(s *api.Sig) { s.Ops = append(s.Ops, api.Op{Name: name, Sort: "Exp"}) }
	}
	fun := func(name string) func(*api.Sig) {
		return func(s *api.Sig) { s.Funs = append(s.Funs, api.Op{Name: name, Sort: "Exp"}) }
	}
	testChanges(t, []change{
		{"operator", op("new_1"), true},
		{"operator, that of a sort", op("Int"), true},
		{"operator, that of an operator", op("plus"), false},
		{"operator, that of a function", op("len"), false},
		{"operator, built in", op("isvalue"), false},
		{"operator, empty", op(""), false},
		{"operator, no letter first", op("1"), false},
		{"operator, the longest", op(letters(api.MaxName)), true},
		{"operator, too long", op(letters(api.MaxName + 1)), false},
		{"frame, the first", op("f'1"), true},
		{"frame, the last", op("f'8"), true},
		{"frame, the longest", op(letters(api.MaxName) + "'8"), true},
		{"frame, too long", op(letters(api.MaxName+1) + "'8"), false},
		{"frame, of a built-in name", op("add'1"), true},
		{"frame, twice", op("plus'1"), false},
		{"frame, 0", op("f'0"), false},
		{"frame, 9", op("f'9"), false},
		{"frame, a letter", op("f'a"), false},
		{"frame, no digit", op("f'"), false},
		{"frame, two digits", op("f'11"), false},
		{"frame of a frame", op("f'1'1"), false},
		{"frame, no name", op("'1"), false},
		{"function", fun("new_1"), true},
		{"function, that of a sort", fun("Int"), true},
		{"function, that of an operator", fun("plus"), false},
		{"function, that of a function", fun("len"), false},
		{"function, built in", fun("add"), false},
		{"function, empty", fun(""), false},
		{"function, the longest", fun(letters(api.MaxName)), true},
		{"function, too long", fun(letters(api.MaxName + 1)), false},
		{"function, that of a frame", fun("f'1"), false},
	})
}

// P1.1: how many operators and functions there may be
func TestValidOpsLimit(t *testing.T) {
	many := func(ops, funs int) bool {
		s := api.Sig{Sorts: []string{"Exp"}}
		for i := range ops {
			s.Ops = append(s.Ops, api.Op{Name: "o" + strings.Repeat("p", i%20) + strings.Repeat("q", i/20), Sort: "Exp"})
		}
		for i := range funs {
			s.Funs = append(s.Funs, api.Op{Name: "f" + strings.Repeat("p", i%20) + strings.Repeat("q", i/20), Sort: "Exp"})
		}
		return sorts.Valid(s)
	}
	if !many(api.MaxOps, 0) || !many(0, api.MaxOps) || !many(api.MaxOps-50, 50) {
		t.Error("as many as there may be")
	}
	if many(api.MaxOps+1, 0) || many(0, api.MaxOps+1) || many(api.MaxOps-50, 51) {
		t.Error("one too many")
	}
}

// P1.1: Args and Sort
func TestValidArgs(t *testing.T) {
	op := func(sort string, args ...string) func(*api.Sig) {
		return func(s *api.Sig) { s.Ops = append(s.Ops, api.Op{Name: "new", Args: args, Sort: sort}) }
	}
	fun := func(sort string, args ...string) func(*api.Sig) {
		return func(s *api.Sig) { s.Funs = append(s.Funs, api.Op{Name: "new", Args: args, Sort: sort}) }
	}
	testChanges(t, []change{
		{"operator", op("Exp", "Any", "Int", "Pgm", "Pgm"), true},
		{"operator, no such argument", op("Exp", "Int", "Nothing"), false},
		{"operator, empty argument", op("Exp", ""), false},
		{"operator, as many as may be", op("Exp", slices.Repeat([]string{"Int"}, api.MaxArgs)...), true},
		{"operator, one too many", op("Exp", slices.Repeat([]string{"Int"}, api.MaxArgs+1)...), false},
		{"operator, always there", op("Int"), false},
		{"operator, Any", op("Any"), false},
		{"operator, no such sort", op("Nothing"), false},
		{"operator, no sort", op(""), false},
		{"function", fun("Exp", "Any", "Int", "Pgm"), true},
		{"function, no such argument", fun("Exp", "Nothing"), false},
		{"function, as many as may be", fun("Exp", slices.Repeat([]string{"Int"}, api.MaxArgs)...), true},
		{"function, one too many", fun("Exp", slices.Repeat([]string{"Int"}, api.MaxArgs+1)...), false},
		{"function, always there", fun("Map"), true},
		{"function, Any", fun("Any"), true},
		{"function, no such sort", fun("Nothing"), false},
		{"function, no sort", fun(""), false},
	})
}

// text returns a change that adds an operator with one string piece.
func text(s string) func(*api.Sig) {
	return pieces(nil, api.Piece{Text: s})
}

func pieces(args []string, list ...api.Piece) func(*api.Sig) {
	return func(s *api.Sig) {
		s.Ops = append(s.Ops, api.Op{Name: "new", Args: args, Sort: "Exp", Pieces: list})
	}
}

// P1.1: Pieces
func TestValidPieces(t *testing.T) {
	exp, pgm, word := api.Piece{Sort: "Exp"}, api.Piece{Sort: "Pgm"}, api.Piece{Text: "w"}
	both := []string{"Exp", "Pgm"}
	testChanges(t, []change{
		{"in their order", pieces(both, word, exp, word, pgm, word), true},
		{"no string", pieces(both, exp, pgm), true},
		{"none at all", pieces(both), true},
		{"no argument", pieces(nil, word, word), true},
		{"in another order", pieces(both, pgm, exp), false},
		{"one is missing", pieces(both, exp, word), false},
		{"all are missing", pieces(both, word), false},
		{"one too many", pieces(both, exp, pgm, pgm), false},
		{"a sort below that of the argument", pieces([]string{"Exp"}, api.Piece{Sort: "Int"}), false},
		{"no such sort", pieces([]string{"Exp"}, api.Piece{Sort: "Nothing"}), false},
		{"a sort and a string", pieces([]string{"Exp"}, api.Piece{Text: "w", Sort: "Exp"}), false},
		{"neither a sort nor a string", pieces(nil, word, api.Piece{}), false},
		{"as many as may be", pieces(nil, slices.Repeat([]api.Piece{word}, 20)...), true},
		{"one more than may be", pieces(nil, slices.Repeat([]api.Piece{word}, 21)...), false},
	})
}

// P1.1: string pieces
func TestValidStringPieces(t *testing.T) {
	for _, s := range []string{"w", "W_1", "true", letters(20), ":=", "()", "!~", strings.Repeat("-", 20)} {
		testChanges(t, []change{{"piece " + s, text(s), true}})
	}
	for _, s := range []string{
		"", letters(21), strings.Repeat("-", 21), "a+", "+a", "+1", "1a", "_a", "+_", "a b", "+ +", `+"`, `\\`, `+\`, "f'1", "+'", "é", "→", "+\xff",
	} {
		testChanges(t, []change{{"piece " + s, text(s), false}})
	}
}

// P1.1: each byte as a string piece
func TestValidStringPieceBytes(t *testing.T) {
	const letters = "ABCDEFGHIJKLMNOPQRSTUVWXYZabcdefghijklmnopqrstuvwxyz"
	const signs = "!#$%&()*+,-./:;<=>?@[]^`{|}~"
	for c := range 256 {
		s := string([]byte{byte(c)})
		testChanges(t, []change{{"byte " + strconv.Itoa(c), text(s), strings.Contains(letters+signs, s)}})
	}
}

// P1.1: Prec, Assoc and Strict
func TestValidBinding(t *testing.T) {
	op := func(f func(op *api.Op)) func(*api.Sig) {
		return func(s *api.Sig) { f(&s.Ops[0]) }
	}
	bind := func(prec int, assoc api.Assoc) func(*api.Sig) {
		return op(func(op *api.Op) { op.Prec, op.Assoc = prec, assoc })
	}
	bare := func(prec int, assoc api.Assoc) func(*api.Sig) {
		return func(s *api.Sig) { s.Ops[2].Prec, s.Ops[2].Assoc = prec, assoc }
	}
	strict := func(numbers ...int) func(*api.Sig) {
		return op(func(op *api.Op) { op.Strict = numbers })
	}
	testChanges(t, []change{
		{"prec 0", bind(0, api.AssocNone), true},
		{"prec 0, left", bind(0, api.AssocLeft), false},
		{"prec 0, right", bind(0, api.AssocRight), false},
		{"prec 1", bind(1, api.AssocNone), true},
		{"prec 20", bind(20, api.AssocRight), true},
		{"prec 21", bind(21, api.AssocLeft), false},
		{"prec -1", bind(-1, api.AssocNone), false},
		{"assoc -1", bind(5, -1), false},
		{"assoc 3", bind(5, 3), false},
		{"no pieces, prec 0", bare(0, api.AssocNone), true},
		{"no pieces, prec 1", bare(1, api.AssocNone), false},
		{"no pieces, left", bare(0, api.AssocLeft), false},
		{"strict, none", strict(), true},
		{"strict, one", strict(2), true},
		{"strict, both", strict(1, 2), true},
		{"strict, 0", strict(0), false},
		{"strict, -1", strict(-1), false},
		{"strict, too great", strict(3), false},
		{"strict, twice", strict(1, 1), false},
		{"strict, twice apart", strict(1, 2, 1), false},
		{"strict without pieces", func(s *api.Sig) { s.Ops[1].Strict = []int{1} }, true},
		{"strict without arguments", func(s *api.Sig) { s.Ops[2].Strict = []int{1} }, false},
	})
}

// P1.1: what functions have not
func TestValidFunctions(t *testing.T) {
	fun := func(f func(fun *api.Op)) func(*api.Sig) {
		return func(s *api.Sig) { f(&s.Funs[0]) }
	}
	testChanges(t, []change{
		{"pieces", fun(func(f *api.Op) { f.Pieces = []api.Piece{{Text: "len"}, {Sort: "List"}, {Sort: "Exp"}} }), false},
		{"prec", fun(func(f *api.Op) { f.Prec = 1 }), false},
		{"assoc", fun(func(f *api.Op) { f.Assoc = api.AssocLeft }), false},
		{"strict", fun(func(f *api.Op) { f.Strict = []int{1} }), false},
		{"none, but not nil", fun(func(f *api.Op) { f.Pieces, f.Strict = []api.Piece{}, []int{} }), true},
	})
}

// P1.1: Values
func TestValidValues(t *testing.T) {
	values := func(names ...string) func(*api.Sig) {
		return func(s *api.Sig) { s.Values = names }
	}
	testChanges(t, []change{
		{"none", values(), true},
		{"all", values(allSorts(base())...), true},
		{"no such sort", values("Int", "Nothing"), false},
		{"an operator", values("plus"), false},
		{"empty", values(""), false},
		{"twice", values("Int", "Exp", "Int"), false},
	})
}

// Rule 1: arguments of any size. What is refused is refused soon.
func TestValidHuge(t *testing.T) {
	const n = 1 << 20
	testChanges(t, []change{
		{"sorts", func(s *api.Sig) { s.Sorts = make([]string, n) }, false},
		{"a sort", func(s *api.Sig) { s.Sorts[0] = letters(n) }, false},
		{"below", func(s *api.Sig) { s.Below = make([]api.Below, n) }, false},
		{"ops", func(s *api.Sig) { s.Ops = make([]api.Op, n) }, false},
		{"funs", func(s *api.Sig) { s.Funs = make([]api.Op, n) }, false},
		{"args", func(s *api.Sig) { s.Ops[0].Args = slices.Repeat([]string{"Int"}, n) }, false},
		{"pieces", func(s *api.Sig) { s.Ops[0].Pieces = slices.Repeat(s.Ops[0].Pieces, n) }, false},
		{"strict", func(s *api.Sig) { s.Ops[0].Strict = slices.Repeat([]int{1, 2}, n) }, false},
		{"values", func(s *api.Sig) { s.Values = slices.Repeat([]string{"Int", "Exp"}, n) }, false},
	})
}
