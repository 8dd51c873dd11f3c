package sorts

import (
	"slices"
	"strings"

	"voussoir/api"
	"voussoir/chars"
)

// Limits of a signature that api does not have.
const (
	maxBelow  = 200 // declarations that a sort is below another one
	maxPieces = 20  // pieces of an operator
	maxPiece  = 20  // bytes of a string piece
	maxPrec   = 20
)

// withinLimits keeps the book of a signature small, before one is made.
func withinLimits(s api.Sig) bool {
	return len(s.Sorts) <= api.MaxSorts &&
		len(s.Below) <= maxBelow &&
		len(s.Ops)+len(s.Funs) <= api.MaxOps
}

// valid reports whether the signature within its limits, of which this is the book, is valid.
func (k book) valid(s api.Sig) bool {
	return validSorts(s.Sorts) &&
		k.validBelow(s.Below) &&
		differ(opNames(s)) &&
		!slices.ContainsFunc(s.Ops, k.badOp) &&
		!slices.ContainsFunc(s.Funs, k.badFun) &&
		k.exist(s.Values...) && differ(s.Values)
}

func validSorts(declared []string) bool {
	for _, name := range declared {
		if !IsName(name) {
			return false
		}
	}
	return differ(slices.Concat(givenSorts(), declared))
}

func (k book) validBelow(list []api.Below) bool {
	for _, b := range list {
		if !k.exist(b.Low) || b.Low == api.Any || !k.declared(b.High) {
			return false
		}
	}
	return differ(list) && !k.hasCircle()
}

func (k book) hasCircle() bool {
	for name := range k.highs {
		if k.over(name)[name] {
			return true
		}
	}
	return false
}

func opNames(s api.Sig) []string {
	var names []string
	for _, op := range slices.Concat(s.Ops, s.Funs) {
		names = append(names, op.Name)
	}
	return names
}

func (k book) badOp(op api.Op) bool {
	return !isOpName(op.Name) || BuiltIn(op.Name) ||
		!k.validArgs(op) || !k.declared(op.Sort) ||
		!validPieces(op) || !validBinding(op) || !validStrict(op)
}

func (k book) badFun(f api.Op) bool {
	return !IsName(f.Name) || BuiltIn(f.Name) ||
		!k.validArgs(f) || !k.exist(f.Sort) ||
		len(f.Pieces) > 0 || f.Prec != 0 || f.Assoc != api.AssocNone || len(f.Strict) > 0
}

func (k book) validArgs(op api.Op) bool {
	return len(op.Args) <= api.MaxArgs && k.exist(op.Args...)
}

func validPieces(op api.Op) bool {
	if len(op.Pieces) == 0 {
		return true
	}
	if len(op.Pieces) > maxPieces {
		return false
	}
	var args []string
	for _, p := range op.Pieces {
		switch {
		case p.Sort == "":
			if !isStringPiece(p.Text) {
				return false
			}
		case p.Text == "":
			args = append(args, p.Sort)
		default:
			return false
		}
	}
	return slices.Equal(args, op.Args)
}

func validBinding(op api.Op) bool {
	if op.Prec == 0 {
		return op.Assoc == api.AssocNone
	}
	return op.Prec > 0 && op.Prec <= maxPrec && len(op.Pieces) > 0 &&
		op.Assoc >= api.AssocNone && op.Assoc <= api.AssocRight
}

func validStrict(op api.Op) bool {
	for _, n := range op.Strict {
		if n < 1 || n > len(op.Args) {
			return false
		}
	}
	return differ(op.Strict)
}

// isOpName reports whether a name is one that an operator can have, also one of a frame (chapter 12).
func isOpName(s string) bool {
	name, digit, frame := strings.Cut(s, "'")
	return IsName(name) && (!frame || len(digit) == 1 && digit[0] >= '1' && digit[0] <= '8')
}

func isStringPiece(s string) bool {
	return len(s) <= maxPiece && (IsName(s) || chars.IsSign(s))
}

// differ reports whether no two elements are the same.
func differ[T comparable](list []T) bool {
	seen := map[T]bool{}
	for _, x := range list {
		if seen[x] {
			return false
		}
		seen[x] = true
	}
	return true
}
