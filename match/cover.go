package match

import (
	"slices"
	"strconv"

	"voussoir/api"
	"voussoir/nodes"
)

// apart names each variable _ as no other one is named: it stands for something else than all others.
func apart(q api.Term) api.Term {
	n := 0
	var named func(t api.Term) api.Term
	named = func(t api.Term) api.Term {
		if t.Kind == api.KVar && t.Text == "_" {
			n++
			t.Text = "_" + strconv.Itoa(n)
		}
		t.Kids = nodes.Each(t.Kids, named)
		return t
	}
	return named(q)
}

// table is a map of a pattern and one of a term, and what is left of their entries, by the indices, rising: the others of the pattern have taken the others of the term.
type table struct {
	part
	mine, its         []entry
	mineLeft, itsLeft []int
}

func newTable(x part) *table {
	mine, its := entries(x.p), entries(x.t)
	return &table{x, mine, its, upTo(len(mine)), upTo(len(its))}
}

// covers reports whether a part can match, with some choice of entries.
func (m matcher) covers(x part, b binding) bool {
	open, ok := m.settle(b, x)
	return ok && m.choose(b, open)
}

// settle matches parts as far as there is no choice. It returns the tables in which there may be one: they come last, so that what does not match at all is found before anything is tried.
func (m matcher) settle(b binding, todo ...part) (open []*table, ok bool) {
	for len(todo) > 0 {
		x := todo[len(todo)-1]
		todo = todo[:len(todo)-1]
		switch {
		case !m.top(x.p, x.t):
			return nil, false
		case x.p.Kind == api.KVar:
			if !m.bind(b, x.p, x.t) {
				return nil, false
			}
		case !asLong(x.p, x.t):
			return nil, false
		case x.p.Kind == api.KMap && len(x.p.Kids) > 0:
			open = append(open, newTable(x))
		default:
			todo = append(todo, parts(x.p, x.t)...)
		}
	}
	return open, true
}

// choose reports whether tables can match, with some choice of entries.
func (m matcher) choose(b binding, open []*table) bool {
	if len(open) == 0 {
		return true
	}
	at, i := m.urgent(b, open)
	x, failed := open[at], false
	for _, j := range x.itsLeft {
		if !m.mayTake(b, x, i, j) {
			continue
		}
		tried := slices.Clone(b)
		next, ok := m.assign(tried, x, i, j)
		if !ok {
			continue
		}
		if m.choose(tried, slices.Concat(open[:at], next, open[at+1:])) {
			return true
		}
		// Where the first choice is wrong, it may be that none is right: else each would be tried, with each of those after it.
		if !failed && !m.enough(b, x) {
			return false
		}
		failed = true
	}
	return false
}

// assign lets the entry i of a pattern take the entry j. It returns the tables that are then in place of this one.
func (m matcher) assign(b binding, x *table, i, j int) ([]*table, bool) {
	mine, it := x.mine[i], x.its[j]
	open, ok := m.settle(b, part{mine.key, it.key}, part{mine.value, it.value})
	if !ok {
		return nil, false
	}
	y := *x
	y.mineLeft, _ = less(x.mineLeft, i)
	y.itsLeft, _ = less(x.itsLeft, j)
	if len(y.mineLeft) > 0 {
		return append(open, &y), true
	}
	more, ok := m.settle(b, ends(y.p, y.t, y.itsLeft))
	return append(open, more...), ok
}

// urgent returns the entry that is to take one next, by its table and its index: one that cannot take two comes first, since it has no choice.
func (m matcher) urgent(b binding, open []*table) (at, i int) {
	for at, x := range open {
		for _, i := range x.mineLeft {
			if !m.hasChoice(b, x, i) {
				return at, i
			}
		}
	}
	return 0, open[0].mineLeft[0]
}

func (m matcher) hasChoice(b binding, x *table, i int) bool {
	n := 0
	for _, j := range x.itsLeft {
		if m.mayTake(b, x, i, j) {
			n++
		}
		if n == 2 {
			return true
		}
	}
	return false
}

func (m matcher) mayTake(b binding, x *table, i, j int) bool {
	return m.suits(b, x.mine[i], x.its[j]) && !m.clash(b, x.mine[i].key, x.its[j].key)
}
