package def

import (
	"slices"

	"voussoir/api"
	"voussoir/term"
)

func sameList[T any](a, b []T, same func(x, y T) bool) bool { return slices.EqualFunc(a, b, same) }

func sameTerms(a, b []api.Term) bool { return sameList(a, b, term.Same) }

func sameEq(a, b api.Eq) bool {
	return term.Same(a.Left, b.Left) && term.Same(a.Right, b.Right) && sameTerms(a.If, b.If)
}

func sameCell(a, b api.Cell) bool {
	return a.Name == b.Name && a.Sort == b.Sort && term.Same(a.Init, b.Init)
}

func sameRule(a, b api.Rule) bool {
	return a.Name == b.Name &&
		sameList(a.Parts, b.Parts, samePart) &&
		sameTerms(a.If, b.If) &&
		sameList(a.New, b.New, sameFresh) &&
		slices.Equal(a.Drop, b.Drop)
}

func samePart(a, b api.Part) bool {
	return a.Cell == b.Cell && a.At == b.At && term.Same(a.Left, b.Left) && sameTerms(a.Right, b.Right)
}

func sameFresh(a, b api.Fresh) bool { return sameTerms(a.Cells, b.Cells) }
