// Package nodes goes through terms, whether or not they are well formed: it looks at their nodes, copies and compares them.
package nodes

import (
	"cmp"
	"slices"

	"voussoir/api"
)

// Visit calls see with a term and all nodes within it, each with its level (1 for the term, and 1 more for each term that it is nested in), until see returns false; it reports whether it never did.
func Visit(t api.Term, see func(node api.Term, level int) bool) bool {
	return visit(t, 1, see)
}

func visit(t api.Term, level int, see func(node api.Term, level int) bool) bool {
	if !see(t, level) {
		return false
	}
	for _, kid := range t.Kids {
		if !visit(kid, level+1, see) {
			return false
		}
	}
	for _, rest := range t.Rest {
		if !visit(rest, level+1, see) {
			return false
		}
	}
	return true
}

// Clone returns a term in new memory.
func Clone(t api.Term) api.Term {
	t.Kids = Each(t.Kids, Clone)
	t.Rest = Each(t.Rest, Clone)
	return t
}

// Each returns what terms are changed to, in a new slice.
func Each(list []api.Term, change func(t api.Term) api.Term) []api.Term {
	if len(list) == 0 {
		return nil
	}
	changed := make([]api.Term, len(list))
	for i, t := range list {
		changed[i] = change(t)
	}
	return changed
}

// Compare returns the order of two well formed terms. It is that of all their fields: those that a kind does not use are zero, and no Rest comes before one.
func Compare(a, b api.Term) int {
	fields := cmp.Or(
		cmp.Compare(a.Kind, b.Kind),
		cmp.Compare(a.N, b.N),
		cmp.Compare(a.Text, b.Text),
		cmp.Compare(a.Sort, b.Sort),
	)
	if fields != 0 {
		return fields
	}
	if kids := slices.CompareFunc(a.Kids, b.Kids, Compare); kids != 0 {
		return kids
	}
	return slices.CompareFunc(a.Rest, b.Rest, Compare)
}

// IsKey reports whether a term is of a kind of which the keys of a plain map are.
func IsKey(t api.Term) bool {
	return t.Kind == api.KInt || t.Kind == api.KText || t.Kind == api.KId
}
