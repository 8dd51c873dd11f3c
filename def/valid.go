package def

import (
	"math"
	"slices"

	"voussoir/api"
	"voussoir/chars"
	"voussoir/nodes"
	"voussoir/term"
)

// validList reports whether there are at most so many elements, and each is valid.
func validList[T any](list []T, most int, valid func(x T) bool) bool {
	return len(list) <= most && !slices.ContainsFunc(list, func(x T) bool { return !valid(x) })
}

func validSig(s api.Sig) bool {
	return validList(s.Sorts, api.MaxSorts, isName) &&
		validList(s.Below, maxBelow, validBelow) &&
		len(s.Ops)+len(s.Funs) <= api.MaxOps &&
		validList(s.Ops, api.MaxOps, validOp) &&
		validList(s.Funs, api.MaxOps, validFun) &&
		validList(s.Values, math.MaxInt, isName)
}

func validBelow(b api.Below) bool { return isName(b.Low) && isName(b.High) }

// validNames reports whether the names of an operator or a function are valid.
func validNames(op api.Op) bool {
	return isName(op.Name) && validList(op.Args, api.MaxArgs, isName) && isName(op.Sort)
}

func validFun(f api.Op) bool {
	return validNames(f) && len(f.Pieces) == 0 && f.Prec == 0 && f.Assoc == api.AssocNone && len(f.Strict) == 0
}

func validOp(op api.Op) bool {
	isArg := func(n int) bool { return n >= 1 && n <= api.MaxArgs }
	return validNames(op) && validPieces(op) &&
		op.Prec >= 0 && op.Prec <= maxPrec &&
		op.Assoc >= api.AssocNone && op.Assoc <= api.AssocRight &&
		validList(op.Strict, math.MaxInt, isArg)
}

// validPieces reports whether an operator has no pieces, or some that have just its arguments, and at least one string.
func validPieces(op api.Op) bool {
	if len(op.Pieces) == 0 {
		return true
	}
	var args []string
	for _, p := range op.Pieces {
		if p.Sort != "" {
			args = append(args, p.Sort)
		}
	}
	return validList(op.Pieces, maxPieces, validPiece) && len(args) < len(op.Pieces) && slices.Equal(args, op.Args)
}

// validPiece leaves sorts, which are looked at as the operator's arguments.
func validPiece(p api.Piece) bool {
	return chars.IsString(p.Text) && (p.Sort == "" || p.Text == "")
}

func validEq(eq api.Eq) bool {
	return validTerm(eq.Left) && validTerm(eq.Right) && validList(eq.If, maxIf, validTerm)
}

func validCells(d api.Def) bool {
	return validList(d.Once, api.MaxCells, validCell) &&
		validList(d.Many, api.MaxCells, validCell) &&
		isNameOrNone(d.Kind) && (d.Kind == "") == (len(d.Many) == 0)
}

func validCell(c api.Cell) bool {
	return isName(c.Name) && isName(c.Sort) && validTerm(c.Init)
}

func validRule(r api.Rule) bool {
	parts := len(r.Parts) + len(r.New) + len(r.Drop)
	return isName(r.Name) && parts > 0 && parts <= maxParts &&
		validList(r.Parts, maxParts, validPart) &&
		validList(r.New, maxParts, validFresh) &&
		validList(r.Drop, maxParts, isName) &&
		validList(r.If, maxIf, validTerm)
}

func validPart(p api.Part) bool {
	return isName(p.Cell) && isNameOrNone(p.At) && validTerm(p.Left) && validList(p.Right, 1, validTerm)
}

func validFresh(f api.Fresh) bool {
	return len(f.Cells) > 0 && validList(f.Cells, math.MaxInt, validTerm)
}

// validTerm reports whether a term can stand in a definition: one that is well formed may have frames and reserved names, too.
func validTerm(t api.Term) bool {
	return term.Valid(t) && nodes.Visit(t, func(node api.Term, _ int) bool {
		switch node.Kind {
		case api.KApp:
			return isName(node.Text)
		case api.KId, api.KVar:
			return !isReserved(node.Text) && !isReserved(node.Sort)
		}
		return true
	})
}
