package def_test

import (
	"math/rand"

	"voussoir/api"
)

// drawer draws definitions that are well formed. There are few names, so that many stand at several places.
type drawer struct{ *rand.Rand }

func (r drawer) name() string {
	return []string{"a", "b", "k", "X", "Exp", "add", "Int", "If", "list_1"}[r.Intn(9)]
}

func (r drawer) nameOrNone() string {
	if r.Intn(3) == 0 {
		return ""
	}
	return r.name()
}

func (r drawer) str() string { return []string{"", "a", "if", "+ +", "//", " 'a "}[r.Intn(6)] }

// several returns less than n elements.
func several[T any](r drawer, n int, draw func() T) []T {
	var all []T
	for range r.Intn(n) {
		all = append(all, draw())
	}
	return all
}

func (r drawer) names(n int) []string { return several(r, n, r.name) }

func (r drawer) leaf() api.Term {
	switch r.Intn(8) {
	case 0, 1:
		return whole(r.Intn(2*api.MaxInt) - api.MaxInt)
	case 2:
		return truth(r.Intn(2))
	case 3:
		return str(r.str())
	case 4:
		return id([]string{"a", "b", "k", "add", "x_1"}[r.Intn(5)])
	case 5:
		return variable("_", "Any")
	case 6:
		return variable("$", "Any")
	}
	return variable(r.name(), r.name())
}

func (r drawer) term(depth int) api.Term {
	if depth == 0 || r.Intn(3) == 0 {
		return r.leaf()
	}
	kids := several(r, 4, func() api.Term { return r.term(depth - 1) })
	var t api.Term
	switch r.Intn(3) {
	case 0:
		return app(r.name(), kids...)
	case 1:
		t = list(kids...)
	case 2:
		t = table(append(kids, kids...)...)
	}
	if r.Intn(3) == 0 {
		t = with(t, r.name())
	}
	return t
}

func (r drawer) any() api.Term { return r.term(3) }

func (r drawer) op() api.Op {
	op := api.Op{Name: r.name(), Sort: r.name(), Prec: max(0, r.Intn(30)-9), Assoc: api.Assoc(r.Intn(3))}
	op.Strict = several(r, 3, func() int { return 1 + r.Intn(8) })
	if r.Intn(3) == 0 {
		op.Args = r.names(9)
		return op
	}
	for n := r.Intn(4); n >= 0; n-- {
		for _, sort := range r.names(3) {
			op.Args = append(op.Args, sort)
			op.Pieces = append(op.Pieces, api.Piece{Sort: sort})
		}
		op.Pieces = append(op.Pieces, api.Piece{Text: r.str()})
	}
	return op
}

func (r drawer) fun() api.Op { return api.Op{Name: r.name(), Sort: r.name(), Args: r.names(9)} }

func (r drawer) cell() api.Cell {
	return api.Cell{Name: r.name(), Sort: r.name(), Init: r.any(), Line: r.Intn(9), Col: r.Intn(9)}
}

func (r drawer) eq() api.Eq {
	return api.Eq{Left: r.any(), Right: r.any(), If: several(r, 3, r.any), Line: r.Intn(9)}
}

func (r drawer) part() api.Part {
	return api.Part{Cell: r.name(), At: r.nameOrNone(), Left: r.any(), Right: several(r, 2, r.any), Col: r.Intn(9)}
}

func (r drawer) fresh() api.Fresh {
	return api.Fresh{Cells: append(several(r, 3, r.any), r.any())}
}

func (r drawer) rule() api.Rule {
	rule := api.Rule{Name: r.name(), Parts: several(r, 4, r.part), New: several(r, 3, r.fresh), Drop: r.names(3), If: several(r, 3, r.any)}
	if len(rule.Parts)+len(rule.New)+len(rule.Drop) == 0 {
		rule.Drop = []string{r.name()}
	}
	return rule
}

func (r drawer) definition() api.Def {
	d := api.Def{
		Name: r.name(),
		Sig: api.Sig{
			Sorts:  r.names(4),
			Below:  several(r, 3, func() api.Below { return api.Below{Low: r.name(), High: r.name()} }),
			Ops:    several(r, 4, r.op),
			Funs:   several(r, 3, r.fun),
			Values: r.names(3),
		},
		Eqs:   several(r, 3, r.eq),
		Once:  several(r, 3, r.cell),
		Many:  several(r, 3, r.cell),
		Start: r.nameOrNone(),
		Watch: r.nameOrNone(),
		Rules: several(r, 3, r.rule),
	}
	if len(d.Many) > 0 {
		d.Kind = r.name()
	}
	return d
}

// drawn calls use with definitions; the same ones for the same seed.
func drawn(seed int64, n int, use func(r drawer, d api.Def)) {
	r := drawer{rand.New(rand.NewSource(seed))}
	for range n {
		use(r, r.definition())
	}
}
