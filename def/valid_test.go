package def_test

import (
	"math"
	"reflect"
	"slices"
	"strings"
	"testing"

	"voussoir/api"
	"voussoir/def"
)

// changed returns the definition full after a change.
func changed(t *testing.T, change func(d *api.Def)) api.Def {
	t.Helper()
	d := parsed(t, full)
	change(&d)
	return d
}

// badNames has names that a definition cannot have.
func badNames() []string {
	return append(strings.Fields(words), "", "1", "_", "$", "_a", "a-b", "a'1", "a b", "é", letters(api.MaxName+1))
}

// badTerms has terms that a definition cannot have.
func badTerms() []api.Term {
	bad := []api.Term{
		{}, {Kind: 9}, whole(api.MaxInt + 1), whole(-api.MaxInt - 1), truth(2), str("\""), str(letters(201)), id("A"), id("if"), id("new"), id("true"), app("f'1"), app("if"), app("1"),
		variable("if", "A"), variable("X", "if"), variable("X", ""), variable("_", "A"), variable("$", "Int"), with(list(), "if"), with(table(), "rule"), with(list(), "_"), table(whole(1)),
		app("f", slices.Repeat([]api.Term{whole(1)}, api.MaxArgs+1)...), nested(api.MaxNest, whole(1)), list(slices.Repeat([]api.Term{whole(1)}, api.MaxSize)...),
		{Kind: api.KInt, Text: "x"}, {Kind: api.KText, Text: "x", Sort: "Text"}, {Kind: api.KList, Rest: []api.Term{variable("L", "Map")}}, {Kind: api.KList, Rest: []api.Term{variable("L", "List"), variable("L", "List")}},
	}
	for _, x := range slices.Clone(bad) {
		if len(x.Kids) < 9 {
			bad = append(bad, list(whole(1), x), table(x, whole(1)), app("f", table(whole(1), x)))
		}
	}
	return bad
}

// withName returns definitions that have a name at each place where one stands.
func withName(t *testing.T, name string) []api.Def {
	t.Helper()
	var all []api.Def
	for _, change := range []func(d *api.Def){
		func(d *api.Def) { d.Name = name },
		func(d *api.Def) { d.Sig.Sorts[1] = name },
		func(d *api.Def) { d.Sig.Below[0].Low = name },
		func(d *api.Def) { d.Sig.Below[0].High = name },
		func(d *api.Def) { d.Sig.Values[0] = name },
		func(d *api.Def) { d.Sig.Ops[0].Name = name },
		func(d *api.Def) { d.Sig.Ops[0].Sort = name },
		func(d *api.Def) { d.Sig.Ops[1].Args[1] = name },
		func(d *api.Def) { d.Sig.Ops[2].Args[0], d.Sig.Ops[2].Pieces[1].Sort = name, name },
		func(d *api.Def) { d.Sig.Funs[0].Name = name },
		func(d *api.Def) { d.Sig.Funs[1].Args[0] = name },
		func(d *api.Def) { d.Sig.Funs[1].Sort = name },
		func(d *api.Def) { d.Eqs[0].Left.Text = name },
		func(d *api.Def) { d.Eqs[1].Right.Text = name },
		func(d *api.Def) { d.Eqs[1].Right.Sort = name },
		func(d *api.Def) { d.Once[0].Name = name },
		func(d *api.Def) { d.Once[1].Sort = name },
		func(d *api.Def) { d.Kind = name },
		func(d *api.Def) { d.Many[0].Name = name },
		func(d *api.Def) { d.Many[1].Sort = name },
		func(d *api.Def) { d.Many[1].Init.Rest[0].Text = name },
		func(d *api.Def) { d.Rules[0].Name = name },
		func(d *api.Def) { d.Rules[0].Parts[0].Cell = name },
		func(d *api.Def) { d.Rules[0].Drop[1] = name },
		func(d *api.Def) { d.Rules[0].Parts[1].Left.Rest[0].Text = name },
	} {
		all = append(all, changed(t, change))
	}
	if name == "" { // at these places there need be no name
		return all
	}
	return append(all,
		changed(t, func(d *api.Def) { d.Start = name }),
		changed(t, func(d *api.Def) { d.Watch = name }),
		changed(t, func(d *api.Def) { d.Rules[0].Parts[0].At = name }),
	)
}

// withTerm returns definitions that have a term at each place where one stands.
func withTerm(t *testing.T, x api.Term) []api.Def {
	t.Helper()
	var all []api.Def
	for _, change := range []func(d *api.Def){
		func(d *api.Def) { d.Eqs[0].Left = x },
		func(d *api.Def) { d.Eqs[0].Right = x },
		func(d *api.Def) { d.Eqs[1].If[1] = x },
		func(d *api.Def) { d.Once[1].Init = x },
		func(d *api.Def) { d.Many[1].Init = x },
		func(d *api.Def) { d.Rules[0].Parts[1].Left = x },
		func(d *api.Def) { d.Rules[0].Parts[0].Right[0] = x },
		func(d *api.Def) { d.Rules[0].If[0] = x },
		func(d *api.Def) { d.Rules[0].New[0].Cells[1] = x },
		func(d *api.Def) { d.Rules[1].Parts[0].Left = x },
	} {
		all = append(all, changed(t, change))
	}
	return all
}

// illFormed returns definitions that are not well formed.
func illFormed(t *testing.T) []api.Def {
	t.Helper()
	all := []api.Def{{}}
	for _, name := range badNames() {
		all = append(all, withName(t, name)...)
	}
	for _, x := range badTerms() {
		all = append(all, withTerm(t, x)...)
	}
	ones := slices.Repeat([]api.Term{whole(1)}, 21)
	for _, change := range []func(d *api.Def){
		func(d *api.Def) { d.Sig.Sorts = numbered(api.MaxSorts+1, "A%d") },
		func(d *api.Def) { d.Sig.Below = slices.Repeat(d.Sig.Below, 201) },
		func(d *api.Def) { d.Sig.Ops = slices.Repeat(d.Sig.Ops[:1], api.MaxOps-1) },
		func(d *api.Def) { d.Sig.Funs = slices.Repeat(d.Sig.Funs[:1], api.MaxOps-4) },
		func(d *api.Def) { d.Sig.Ops[0].Args = numbered(api.MaxArgs+1, "A%d") },
		func(d *api.Def) { d.Sig.Funs[0].Args = numbered(api.MaxArgs+1, "A%d") },
		func(d *api.Def) { d.Sig.Ops[0].Prec = -1 },
		func(d *api.Def) { d.Sig.Ops[2].Prec = 21 },
		func(d *api.Def) { d.Sig.Ops[2].Prec = math.MinInt },
		func(d *api.Def) { d.Sig.Ops[2].Assoc = -1 },
		func(d *api.Def) { d.Sig.Ops[2].Assoc = 3 },
		func(d *api.Def) { d.Sig.Ops[2].Strict = []int{1, 0} },
		func(d *api.Def) { d.Sig.Ops[2].Strict = []int{9} },
		func(d *api.Def) { d.Sig.Ops[2].Strict = []int{-1} },
		func(d *api.Def) { d.Sig.Ops[0].Pieces = []api.Piece{{Text: "\""}} },
		func(d *api.Def) { d.Sig.Ops[0].Pieces = []api.Piece{{Text: "\\"}} },
		func(d *api.Def) { d.Sig.Ops[0].Pieces = []api.Piece{{Text: "a\n"}} },
		func(d *api.Def) { d.Sig.Ops[0].Pieces = []api.Piece{{Text: letters(201)}} },
		func(d *api.Def) { d.Sig.Ops[1].Pieces = []api.Piece{{Sort: "A"}, {Sort: "B"}} },
		func(d *api.Def) { d.Sig.Ops[2].Pieces[1].Text = "x" },
		func(d *api.Def) { d.Sig.Ops[2].Pieces[0].Sort = "A" },
		func(d *api.Def) { d.Sig.Ops[2].Pieces[1].Sort = "B" },
		func(d *api.Def) { d.Sig.Ops[2].Args = []string{"B", "A"} },
		func(d *api.Def) { d.Sig.Ops[2].Args = []string{"A"} },
		func(d *api.Def) { d.Sig.Ops[2].Args = nil },
		func(d *api.Def) { d.Sig.Ops[0].Pieces = slices.Repeat([]api.Piece{{Text: "x"}}, 21) },
		func(d *api.Def) { d.Sig.Funs[0].Pieces = []api.Piece{{Text: "x"}} },
		func(d *api.Def) { d.Sig.Funs[1].Pieces = []api.Piece{{Sort: "Int"}, {Sort: "A"}} },
		func(d *api.Def) { d.Sig.Funs[0].Prec = 1 },
		func(d *api.Def) { d.Sig.Funs[0].Assoc = api.AssocLeft },
		func(d *api.Def) { d.Sig.Funs[1].Strict = []int{1} },
		func(d *api.Def) { d.Eqs = slices.Repeat(d.Eqs, api.MaxRules/2+1) },
		func(d *api.Def) { d.Eqs[0].If = ones },
		func(d *api.Def) { d.Once = slices.Repeat(d.Once, api.MaxCells/2+1) },
		func(d *api.Def) { d.Many = slices.Repeat(d.Many, api.MaxCells/2+1) },
		func(d *api.Def) { d.Kind = "" },
		func(d *api.Def) { d.Many = nil },
		func(d *api.Def) { d.Rules = slices.Repeat(d.Rules, api.MaxRules/2+1) },
		func(d *api.Def) { d.Rules[0].If = ones },
		func(d *api.Def) { d.Rules[1].Parts = nil },
		func(d *api.Def) { d.Rules[0].Parts, d.Rules[0].New, d.Rules[0].Drop = nil, nil, nil },
		func(d *api.Def) { d.Rules[0].Parts = slices.Repeat(d.Rules[0].Parts, 11) },
		func(d *api.Def) { d.Rules[0].New = slices.Repeat(d.Rules[0].New, 11) },
		func(d *api.Def) { d.Rules[0].Drop = slices.Repeat(d.Rules[0].Drop, 11) },
		func(d *api.Def) { d.Rules[0].Parts = slices.Repeat(d.Rules[0].Parts[:1], 17) },
		func(d *api.Def) { d.Rules[0].Parts[0].Right = ones[:2] },
		func(d *api.Def) { d.Rules[0].New[1].Cells = nil },
	} {
		all = append(all, changed(t, change))
	}
	return all
}

// P6.4
func TestValid(t *testing.T) {
	for i, d := range illFormed(t) {
		if def.Valid(d) {
			t.Errorf("%d: %+v", i, d)
		}
	}
	for _, s := range []string{sums, full, "language e."} {
		if !def.Valid(parsed(t, s)) {
			t.Error(s)
		}
	}
	for _, name := range []string{"a", "If", "Int", "add", letters(api.MaxName)} {
		for i, d := range withName(t, name) {
			if !def.Valid(d) {
				t.Errorf("%s %d: %+v", name, i, d)
			}
		}
	}
	for _, x := range []api.Term{whole(-api.MaxInt), truth(0), str("if"), str(letters(200)), id("x"), variable("_", "Any"), variable("$", "Any"), variable("true_", "Nothing"), app("f", slices.Repeat([]api.Term{whole(1)}, api.MaxArgs)...), nested(api.MaxNest-1, whole(1)), list(slices.Repeat([]api.Term{whole(1)}, api.MaxSize-1)...), table(list(), table(), list(), table())} {
		for i, d := range withTerm(t, x) {
			if !def.Valid(d) {
				t.Errorf("%v %d: %+v", x, i, d)
			}
		}
	}
}

// P6.4: a definition is well formed whether or not it is sound, and its string too long; lines and columns are free. There may be as many of each thing as Parse takes.
func TestValidLimits(t *testing.T) {
	ones := slices.Repeat([]api.Term{whole(1)}, 20)
	for i, change := range []func(d *api.Def){
		func(d *api.Def) { d.Sig.Sorts = numbered(api.MaxSorts, letters(30)+"%d") },
		func(d *api.Def) { d.Sig.Sorts = []string{"A", "A", "Int"} },
		func(d *api.Def) { d.Sig.Below = slices.Repeat(d.Sig.Below, 200) },
		func(d *api.Def) { d.Sig.Values = numbered(5000, "A%d") },
		func(d *api.Def) { d.Sig.Ops = slices.Repeat(d.Sig.Ops[:1], api.MaxOps-2) },
		func(d *api.Def) { d.Sig.Funs = slices.Repeat(d.Sig.Funs[:1], api.MaxOps-5) },
		func(d *api.Def) { d.Sig.Ops[0].Args = numbered(api.MaxArgs, "A%d") },
		func(d *api.Def) { d.Sig.Funs[0].Args = numbered(api.MaxArgs, "A%d") },
		func(d *api.Def) { d.Sig.Ops[0].Prec, d.Sig.Ops[0].Assoc = 20, api.AssocRight },
		func(d *api.Def) { d.Sig.Ops[0].Strict = slices.Repeat([]int{8, 1}, 1000) },
		func(d *api.Def) { d.Sig.Ops[0].Pieces = slices.Repeat([]api.Piece{{Text: letters(200)}}, 20) },
		func(d *api.Def) { d.Sig.Ops[0].Pieces = []api.Piece{{}} },
		func(d *api.Def) { d.Eqs = slices.Repeat(d.Eqs, api.MaxRules/2) },
		func(d *api.Def) { d.Eqs[0].If = ones },
		func(d *api.Def) { d.Once = slices.Repeat(d.Once, api.MaxCells/2) },
		func(d *api.Def) { d.Once = nil },
		func(d *api.Def) { d.Many = slices.Repeat(d.Many, api.MaxCells/2) },
		func(d *api.Def) { d.Kind, d.Many = "", nil },
		func(d *api.Def) { d.Rules = slices.Repeat(d.Rules, api.MaxRules/2) },
		func(d *api.Def) { d.Rules[0].If = ones },
		func(d *api.Def) { d.Rules[0].Parts = slices.Repeat(d.Rules[0].Parts, 8) },
		func(d *api.Def) { d.Rules[1].New = slices.Repeat([]api.Fresh{{Cells: slices.Repeat(ones, 100)}}, 19) },
		func(d *api.Def) { d.Rules[1].Drop = numbered(19, "a%d") },
		func(d *api.Def) { d.Start, d.Watch, d.Rules[0].Parts[1].At = "", "", "" },
		func(d *api.Def) { d.Eqs[0].Line, d.Once[0].Col, d.Many[0].Line = -1, math.MinInt, math.MaxInt },
		func(d *api.Def) { d.Rules[0].Line, d.Rules[0].Parts[0].Col = 0, -5 },
	} {
		if d := changed(t, change); !def.Valid(d) {
			t.Errorf("%d: %+v", i, d)
		}
	}
	shared := whole(1)
	for range api.MaxNest {
		shared = list(shared, shared)
	}
	for _, d := range withTerm(t, shared) {
		if def.Valid(d) {
			t.Error("a term of very many nodes")
		}
	}
}

// spots returns where in a value there is an integer or a string that counts, and where a slice.
func spots(v reflect.Value) (fields, slicesOf []reflect.Value) {
	add := func(w reflect.Value) {
		f, l := spots(w)
		fields, slicesOf = append(fields, f...), append(slicesOf, l...)
	}
	switch v.Kind() {
	case reflect.Struct:
		for i := range v.NumField() {
			if name := v.Type().Field(i).Name; name != "Line" && name != "Col" {
				add(v.Field(i))
			}
		}
	case reflect.Slice:
		slicesOf = append(slicesOf, v)
		for i := range v.Len() {
			add(v.Index(i))
		}
	default:
		fields = append(fields, v)
	}
	return fields, slicesOf
}

// P6.4: each field counts but lines and columns; and so does each element of each slice.
func TestSame(t *testing.T) {
	fields, lists := func() (int, int) {
		d := parsed(t, full)
		f, l := spots(reflect.ValueOf(&d).Elem())
		return len(f), len(l)
	}()
	if fields < 200 || lists < 50 {
		t.Fatal("few fields:", fields, lists)
	}
	for i := range fields {
		d := parsed(t, full)
		f, _ := spots(reflect.ValueOf(&d).Elem())
		switch f[i].Kind() {
		case reflect.String:
			f[i].SetString(f[i].String() + "x")
		default:
			f[i].SetInt(f[i].Int() + 1)
		}
		wantDifferent(t, d)
	}
	for i := range lists {
		d := parsed(t, full)
		_, l := spots(reflect.ValueOf(&d).Elem())
		l[i].Set(reflect.Append(l[i], reflect.New(l[i].Type().Elem()).Elem()))
		wantDifferent(t, d)
		if n := l[i].Len() - 1; n > 0 {
			l[i].Set(l[i].Slice(0, n-1))
			wantDifferent(t, d)
		}
	}
	d := parsed(t, full)
	d.Eqs[1].Line, d.Eqs[0].Col, d.Once[0].Line, d.Many[1].Col, d.Rules[1].Line, d.Rules[0].Col, d.Rules[0].Parts[1].Line = -1, 0, 100, 7, 7, 7, 7
	if !def.Same(d, parsed(t, full)) || !def.Same(parsed(t, full), d) {
		t.Error("lines and columns count")
	}
}

func wantDifferent(t *testing.T, d api.Def) {
	t.Helper()
	if same := parsed(t, full); def.Same(d, same) || def.Same(same, d) || !def.Same(d, d) {
		t.Errorf("%+v", d)
	}
}

// P6.4, rule 3: a nil slice and an empty one are the same.
func TestSameEmpty(t *testing.T) {
	d := api.Def{Sig: api.Sig{Sorts: []string{}, Ops: []api.Op{{Args: []string{}, Pieces: []api.Piece{}, Strict: []int{}}}}, Eqs: []api.Eq{{Left: api.Term{Kids: []api.Term{}}, If: []api.Term{}}}, Rules: []api.Rule{{Parts: []api.Part{{Right: []api.Term{}}}, New: []api.Fresh{{Cells: []api.Term{}}}, Drop: []string{}}}}
	e := api.Def{Sig: api.Sig{Ops: []api.Op{{}}}, Eqs: []api.Eq{{}}, Rules: []api.Rule{{Parts: []api.Part{{}}, New: []api.Fresh{{}}}}}
	if !def.Same(d, e) || !def.Same(e, d) || !def.Same(api.Def{}, api.Def{}) || def.Same(d, api.Def{}) {
		t.Error(d, e)
	}
}
