package term

import (
	"cmp"
	"slices"

	"voussoir/api"
)

// compare returns the order of two well formed terms. It is that of all their fields: those that a kind does not use are zero, and no Rest comes before one.
func compare(a, b api.Term) int {
	fields := cmp.Or(
		cmp.Compare(a.Kind, b.Kind),
		cmp.Compare(a.N, b.N),
		cmp.Compare(a.Text, b.Text),
		cmp.Compare(a.Sort, b.Sort),
	)
	if fields != 0 {
		return fields
	}
	if kids := slices.CompareFunc(a.Kids, b.Kids, compare); kids != 0 {
		return kids
	}
	return slices.CompareFunc(a.Rest, b.Rest, compare)
}
