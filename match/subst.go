package match

import (
	"cmp"
	"slices"

	"voussoir/api"
	"voussoir/nodes"
)

// joined returns a substitution of pairs, in new memory.
func joined(u api.Subst, more ...api.Pair) api.Subst {
	var all api.Subst
	for _, pair := range slices.Concat(u, more) {
		all = append(all, api.Pair{Var: pair.Var, Term: nodes.Clone(pair.Term)})
	}
	slices.SortFunc(all, func(a, b api.Pair) int { return cmp.Compare(a.Var, b.Var) })
	return all
}
