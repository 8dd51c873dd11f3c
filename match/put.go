package match

import (
	"slices"

	"voussoir/api"
	"voussoir/book"
	"voussoir/nodes"
	"voussoir/term"
)

// filler has the terms to be put in, by their variables.
type filler map[string]api.Term

func newFiller(u api.Subst) filler {
	f := filler{}
	for _, pair := range u {
		f[pair.Var] = pair.Term
	}
	return f
}

// allows reports whether the sorts of variables, also of Rests, allow their terms.
func (f filler) allows(known *book.Book, t api.Term) bool {
	return nodes.Visit(t, func(node api.Term, _ int) bool {
		filling, ok := f[node.Text]
		if !ok || node.Kind != api.KVar {
			return true
		}
		sort, _ := known.Sort(filling)
		return known.AtMost(sort, node.Sort)
	})
}

// term returns a term with its variables filled. It shares memory with both.
func (f filler) term(t api.Term) api.Term {
	if filling, ok := f[t.Text]; ok && t.Kind == api.KVar {
		return filling
	}
	t.Kids = nodes.Each(t.Kids, f.term)
	for _, rest := range t.Rest {
		if filling, ok := f[rest.Text]; ok {
			t.Kids, t.Rest = append(t.Kids, filling.Kids...), nil
		}
	}
	if t.Kind == api.KMap {
		t.Kids = inOrder(entries(t))
	}
	return t
}

// inOrder returns entries in the order of their keys, if these are such as plain maps have; if not, as they are.
func inOrder(all []entry) []api.Term {
	if !slices.ContainsFunc(all, func(e entry) bool { return !nodes.IsKey(e.key) }) {
		slices.SortStableFunc(all, func(a, b entry) int { return nodes.Compare(a.key, b.key) })
	}
	var kids []api.Term
	for _, e := range all {
		kids = append(kids, e.key, e.value)
	}
	return kids
}

// hasTwice reports whether a map in a term has a key twice.
func hasTwice(t api.Term) bool {
	return !nodes.Visit(t, func(node api.Term, _ int) bool {
		return node.Kind != api.KMap || !twice(entries(node))
	})
}

func twice(all []entry) bool {
	var keys []api.Term
	for _, e := range all {
		if nodes.IsKey(e.key) {
			keys = append(keys, e.key)
		}
	}
	slices.SortFunc(keys, nodes.Compare)
	different := slices.CompactFunc(slices.Clone(keys), term.Same)
	return len(different) < len(keys)
}
