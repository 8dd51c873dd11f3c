package def

import (
	"slices"

	"voussoir/api"
	"voussoir/term"
)

// exchange puts each of two names in place of the other one, in new memory.
type exchange struct{ a, b string }

// each returns what elements are changed to.
func each[T any](list []T, change func(x T) T) []T {
	var changed []T
	for _, x := range list {
		changed = append(changed, change(x))
	}
	return changed
}

func (x exchange) name(s string) string {
	switch s {
	case x.a:
		return x.b
	case x.b:
		return x.a
	}
	return s
}

// term needs no error: the term is well formed, and the names are.
func (x exchange) term(t api.Term) api.Term {
	renamed, _ := term.Rename(t, x.a, x.b)
	return renamed
}

func (x exchange) definition(d api.Def) api.Def {
	d.Name, d.Kind, d.Start, d.Watch = x.name(d.Name), x.name(d.Kind), x.name(d.Start), x.name(d.Watch)
	d.Sig = x.sig(d.Sig)
	d.Eqs = each(d.Eqs, x.eq)
	d.Once = each(d.Once, x.cell)
	d.Many = each(d.Many, x.cell)
	d.Rules = each(d.Rules, x.rule)
	return d
}

func (x exchange) sig(s api.Sig) api.Sig {
	s.Sorts = each(s.Sorts, x.name)
	s.Below = each(s.Below, x.below)
	s.Ops = each(s.Ops, x.op)
	s.Funs = each(s.Funs, x.op)
	s.Values = each(s.Values, x.name)
	return s
}

func (x exchange) below(b api.Below) api.Below {
	return api.Below{Low: x.name(b.Low), High: x.name(b.High)}
}

func (x exchange) op(op api.Op) api.Op {
	op.Name, op.Sort = x.name(op.Name), x.name(op.Sort)
	op.Args = each(op.Args, x.name)
	op.Pieces = each(op.Pieces, x.piece)
	op.Strict = slices.Clone(op.Strict)
	return op
}

func (x exchange) piece(p api.Piece) api.Piece {
	p.Sort = x.name(p.Sort)
	return p
}

func (x exchange) eq(eq api.Eq) api.Eq {
	eq.Left, eq.Right = x.term(eq.Left), x.term(eq.Right)
	eq.If = each(eq.If, x.term)
	return eq
}

func (x exchange) cell(c api.Cell) api.Cell {
	c.Name, c.Sort = x.name(c.Name), x.name(c.Sort)
	c.Init = x.term(c.Init)
	return c
}

func (x exchange) rule(r api.Rule) api.Rule {
	r.Name = x.name(r.Name)
	r.Parts = each(r.Parts, x.part)
	r.If = each(r.If, x.term)
	r.New = each(r.New, x.fresh)
	r.Drop = each(r.Drop, x.name)
	return r
}

func (x exchange) part(p api.Part) api.Part {
	p.Cell, p.At = x.name(p.Cell), x.name(p.At)
	p.Left = x.term(p.Left)
	p.Right = each(p.Right, x.term)
	return p
}

func (x exchange) fresh(f api.Fresh) api.Fresh {
	return api.Fresh{Cells: each(f.Cells, x.term)}
}
