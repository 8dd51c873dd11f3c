package match

import (
	"slices"

	"voussoir/api"
)

const maxMatches = 1000

// limit is raised where there are too many substitutions.
type limit struct{}

// all returns all bindings with which a pattern matches a plain term, in order.
func (m matcher) all(p, t api.Term, b binding) (found []binding, e api.Errno) {
	defer func() {
		switch raised := recover().(type) {
		case nil:
		case limit:
			found, e = nil, api.ErrLimit
		default:
			panic(raised)
		}
	}()
	return m.match(p, t, []binding{b}), api.OK
}

// match returns the bindings that come of all those given, in order. These are used up.
func (m matcher) match(p, t api.Term, all []binding) []binding {
	if len(all) == 0 || !m.top(p, t) {
		return nil
	}
	switch p.Kind {
	case api.KVar:
		return m.variable(p, t, all)
	case api.KMap:
		return m.wholeMap(p, t, all)
	}
	return m.within(p, t, all)
}

func (m matcher) variable(p, t api.Term, all []binding) []binding {
	var kept []binding
	for _, b := range all {
		if m.bind(b, p, t) {
			kept = append(kept, b)
		}
	}
	return kept
}

func (m matcher) within(p, t api.Term, all []binding) []binding {
	if !asLong(p, t) {
		return nil
	}
	for _, next := range parts(p, t) {
		all = m.match(next.p, next.t, all)
	}
	return all
}

// way is a binding with which the entries of a pattern so far have taken some of a map, and those that are left, by their indices, rising.
type way struct {
	binding
	left []int
}

func (m matcher) wholeMap(p, t api.Term, all []binding) []binding {
	its := entries(t)
	var ways []way
	for _, b := range all {
		ways = append(ways, way{b, upTo(len(its))})
	}
	for _, mine := range entries(p) {
		ways = m.goOn(mine, its, ways)
	}
	var ended []binding
	for _, w := range ways {
		x := ends(p, t, w.left)
		ended = append(ended, m.within(x.p, x.t, []binding{w.binding})...)
	}
	return ended
}

// goOn goes on, on each way, with each entry of a map that an entry of a pattern can take. The same variables have terms on all ways.
func (m matcher) goOn(mine entry, its []entry, ways []way) []way {
	if len(ways) == 0 {
		return nil
	}
	suited := m.suited(ways[0].binding, mine, its)
	var next []way
	for _, w := range ways {
		for _, i := range suited {
			next = append(next, m.take(mine, its[i], i, w)...)
			if len(next) > maxMatches {
				panic(limit{})
			}
		}
	}
	return next
}

// take returns how a way goes on if an entry of a pattern takes the entry i of a map. What stands in its value is matched with this way alone, since it counts by itself.
func (m matcher) take(mine, it entry, i int, w way) []way {
	if m.clash(w.binding, mine.key, it.key) {
		return nil
	}
	left, ok := less(w.left, i)
	if !ok {
		return nil
	}
	alone := slices.Clone(w.binding)
	if mine.key.Kind == api.KVar {
		m.bind(alone, mine.key, it.key)
	}
	var ways []way
	for _, b := range m.match(mine.value, it.value, []binding{alone}) {
		ways = append(ways, way{b, left})
	}
	return ways
}
