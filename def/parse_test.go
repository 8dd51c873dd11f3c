package def_test

import (
	"reflect"
	"strings"
	"testing"

	"voussoir/api"
	"voussoir/def"
	"voussoir/sorts"
)

// P6.1: a definition with something of each kind, with lines and columns
func TestParse(t *testing.T) {
	a, b := api.Piece{Sort: "A"}, api.Piece{Sort: "B"}
	word := func(s string) api.Piece { return api.Piece{Text: s} }
	want := api.Def{
		Name: "full",
		Sig: api.Sig{
			Sorts: []string{"A", "B"},
			Below: []api.Below{{Low: "Int", High: "A"}},
			Ops: []api.Op{
				{Name: "nil", Sort: "A"},
				{Name: "pair", Args: []string{"A", "B"}, Sort: "B"},
				{Name: "loop", Args: []string{"A", "B"}, Sort: "B", Pieces: []api.Piece{word("while"), a, word("("), b, word(")")}, Prec: 20, Assoc: api.AssocRight, Strict: []int{2, 1}},
				{Name: "minus", Args: []string{"A"}, Sort: "A", Pieces: []api.Piece{word("-"), a}, Prec: 1},
				{Name: "both", Args: []string{"A", "A"}, Sort: "A", Pieces: []api.Piece{a, word(""), a}, Assoc: api.AssocLeft},
			},
			Funs:   []api.Op{{Name: "f", Sort: "Int"}, {Name: "g", Args: []string{"Int", "A"}, Sort: "A"}},
			Values: []string{"Int", "A"},
		},
		Eqs: []api.Eq{
			{Left: app("f"), Right: whole(-5), Line: 12, Col: 1},
			{Left: app("g", variable("X", "Int"), variable("_", "Any")), Right: variable("X", "Int"), If: []api.Term{app("eq", app("f"), str("two words")), truth(1)}, Line: 13, Col: 1},
		},
		Once: []api.Cell{
			{Name: "k", Sort: "List", Init: list(variable("$", "Any")), Line: 14, Col: 6},
			{Name: "e", Sort: "Map", Init: table(), Line: 15, Col: 6},
		},
		Kind: "t",
		Many: []api.Cell{
			{Name: "c", Sort: "Any", Init: id("x"), Line: 16, Col: 8},
			{Name: "d", Sort: "List", Init: with(list(truth(0), whole(1)), "L"), Line: 16, Col: 22},
		},
		Start: "B",
		Watch: "k",
		Rules: []api.Rule{
			{
				Name: "r",
				Parts: []api.Part{
					{Cell: "k", Left: with(list(variable("_", "Any"), id("x")), "K"), Right: []api.Term{with(list(), "K")}, Line: 19, Col: 10},
					{Cell: "c", At: "i", Left: with(table(whole(1), variable("X", "A"), id("k"), app("nil")), "M"), Line: 19, Col: 36},
				},
				If:   []api.Term{app("lt", whole(1), whole(2)), truth(0)},
				New:  []api.Fresh{{Cells: []api.Term{list(), table()}}, {Cells: []api.Term{whole(0)}}},
				Drop: []string{"i", "j"},
				Line: 19, Col: 1,
			},
			{Name: "s", Parts: []api.Part{{Cell: "e", Left: with(table(), "M"), Right: []api.Term{table(whole(1), table())}, Line: 20, Col: 10}}, Line: 20, Col: 1},
		},
	}
	if d := parsed(t, full); !reflect.DeepEqual(d, want) {
		t.Errorf("%+v\ninstead of\n%+v", d, want)
	}
}

// P6.1: DOC's example is a definition with a signature that is valid.
func TestExample(t *testing.T) {
	d := parsed(t, sums)
	if !sorts.Valid(d.Sig) || d.Start != "Pgm" || d.Watch != "k" || d.Kind != "" || len(d.Many) != 0 || len(d.Rules[0].If) != 0 {
		t.Errorf("%+v", d)
	}
}

// P6.1: nothing but its name has to be there.
func TestSmallest(t *testing.T) {
	for _, s := range []string{"language e.", " language\n// x\ne // y\n.//", "language\te\r."} {
		if d := parsed(t, s); !reflect.DeepEqual(d, api.Def{Name: "e"}) {
			t.Errorf("%q: %+v", s, d)
		}
	}
}

// P6.1: items in any order; each slice has the order in which its elements come.
func TestOrderOfItems(t *testing.T) {
	const s = `language o. rule b : c : 1. watch w. value B. sort Z, Y. op p : -> A. many t(c : A = 1). let f() = 2.
		cell x : A = 3. start S. fun g : -> A. sort X. value A, B. subsort B < A. op o : -> A. rule a : c : 4.
		cell w : A = 5. fun f : -> A. subsort A < B. let e() = 6. sort Z.`
	d := parsed(t, s)
	got := [][]string{d.Sig.Sorts, d.Sig.Values, {d.Sig.Below[0].Low, d.Sig.Below[1].Low}, {d.Sig.Ops[0].Name, d.Sig.Ops[1].Name}, {d.Sig.Funs[0].Name, d.Sig.Funs[1].Name}, {d.Eqs[0].Left.Text, d.Eqs[1].Left.Text}, {d.Once[0].Name, d.Once[1].Name}, {d.Rules[0].Name, d.Rules[1].Name}, {d.Start, d.Watch, d.Kind, d.Many[0].Name}}
	want := [][]string{{"Z", "Y", "X", "Z"}, {"B", "A", "B"}, {"B", "A"}, {"p", "o"}, {"g", "f"}, {"f", "e"}, {"x", "w"}, {"b", "a"}, {"S", "w", "t", "c"}}
	if !reflect.DeepEqual(got, want) {
		t.Error(got, want)
	}
}

// P6.1: the attributes of an operator in any order
func TestAttributes(t *testing.T) {
	for attrs, want := range map[string]api.Op{
		"":                             {},
		" prec 7":                      {Prec: 7},
		" prec 007":                    {Prec: 7},
		" left":                        {Assoc: api.AssocLeft},
		" right prec 1":                {Assoc: api.AssocRight, Prec: 1},
		" strict(8)":                   {Strict: []int{8}},
		" strict ( 3 , 1,3 ) left":     {Strict: []int{3, 1, 3}, Assoc: api.AssocLeft},
		" strict(1) right prec 20":     {Strict: []int{1}, Assoc: api.AssocRight, Prec: 20},
		" left strict(1,2,1) prec 20 ": {Strict: []int{1, 2, 1}, Assoc: api.AssocLeft, Prec: 20},
	} {
		want.Name, want.Sort = "o", "S"
		if d := parsed(t, "language e. op o : -> S"+attrs+"."); !reflect.DeepEqual(d.Sig.Ops, []api.Op{want}) {
			t.Error(attrs, d.Sig.Ops)
		}
	}
}

// P6.1: an operator has pieces only where one of them is a string.
func TestPieces(t *testing.T) {
	for _, x := range []struct {
		pieces string
		args   []string
		want   []api.Piece
	}{
		{"", nil, nil},
		{"A", []string{"A"}, nil},
		{"A B A", []string{"A", "B", "A"}, nil},
		{`"a"`, nil, []api.Piece{{Text: "a"}}},
		{`"if""" "( )"`, nil, []api.Piece{{Text: "if"}, {Text: ""}, {Text: "( )"}}},
		{`A"+"`, []string{"A"}, []api.Piece{{Sort: "A"}, {Text: "+"}}},
		{`"+" A B "//" A`, []string{"A", "B", "A"}, []api.Piece{{Text: "+"}, {Sort: "A"}, {Sort: "B"}, {Text: "//"}, {Sort: "A"}}},
	} {
		d := parsed(t, "language e. op o : "+x.pieces+" -> S.")
		if !reflect.DeepEqual(d.Sig.Ops, []api.Op{{Name: "o", Args: x.args, Sort: "S", Pieces: x.want}}) {
			t.Errorf("%s: %+v", x.pieces, d.Sig.Ops)
		}
	}
}

// P6.1: the parts of a rule, in any order
func TestRuleParts(t *testing.T) {
	d := parsed(t, "language e. rule r:drop@b;new(1);\n c@a:2;drop @ a ; new( [], x() ) ; c:3=>4;c:5 if true.")
	want := api.Rule{
		Name: "r",
		Parts: []api.Part{
			{Cell: "c", At: "a", Left: whole(2), Line: 2, Col: 2},
			{Cell: "c", Left: whole(3), Right: []api.Term{whole(4)}, Line: 2, Col: 36},
			{Cell: "c", Left: whole(5), Line: 2, Col: 43},
		},
		If:   []api.Term{truth(1)},
		New:  []api.Fresh{{Cells: []api.Term{whole(1)}}, {Cells: []api.Term{list(), app("x")}}},
		Drop: []string{"b", "a"},
		Line: 1, Col: 13,
	}
	if !reflect.DeepEqual(d.Rules, []api.Rule{want}) {
		t.Errorf("%+v", d.Rules)
	}
	for _, s := range []string{"new(1)", "drop@a", "drop@a if true", "new(1);drop@a"} {
		if d := parsed(t, "language e. rule r : "+s+"."); len(d.Rules[0].Parts) != 0 || len(d.Rules[0].New)+len(d.Rules[0].Drop) == 0 {
			t.Errorf("%s: %+v", s, d.Rules)
		}
	}
}

// P6.1: names that mean something elsewhere are names here.
func TestFreeNames(t *testing.T) {
	for _, name := range []string{"Int", "Any", "add", "isvalue", "If", "TRUE", "languages", "sort_", "k", letters(api.MaxName)} {
		s := strings.ReplaceAll("language N. sort N. subsort N < N. value N. op N : N -> N. fun N : N -> N. let N(N:N) = N:N. start N. cell N : N = 1. many N(N : N = 1). watch N. rule N : N@N : [| N]; drop@N.\n", "N", name)
		if d := parsed(t, s); d.Name != name || d.Rules[0].Drop[0] != name || !def.Valid(d) {
			t.Errorf("%s: %+v", name, d)
		}
	}
}
