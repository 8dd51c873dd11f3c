package sorts

import (
	"strings"

	"voussoir/api"
)

// Rename returns a signature with two names exchanged.
func Rename(s api.Sig, a, b string) (api.Sig, api.Errno) {
	known, e := open(s)
	if e != api.OK {
		return api.Sig{}, e
	}
	if !IsName(a) || !IsName(b) {
		return api.Sig{}, api.ErrArg
	}
	r := renamer{book: known, a: a, b: b}
	renamed := api.Sig{
		Sorts:  mapped(s.Sorts, r.sort),
		Below:  mapped(s.Below, r.below),
		Ops:    mapped(s.Ops, r.op),
		Funs:   mapped(s.Funs, r.op),
		Values: mapped(s.Values, r.sort),
	}
	// Exchanged names still differ: only one that is always there, or built in, can be in the way.
	if !Valid(renamed) {
		return api.Sig{}, api.ErrTwice
	}
	return renamed, api.OK
}

// renamer exchanges the names a and b of what a signature declares.
type renamer struct {
	book
	a, b string
}

func (r renamer) name(s string) string {
	switch s {
	case r.a:
		return r.b
	case r.b:
		return r.a
	}
	return s
}

// sort leaves a sort that is always there: its name may be exchanged as that of an operator or function.
func (r renamer) sort(s string) string {
	if !r.declared(s) {
		return s
	}
	return r.name(s)
}

func (r renamer) below(b api.Below) api.Below {
	return api.Below{Low: r.sort(b.Low), High: r.sort(b.High)}
}

func (r renamer) piece(p api.Piece) api.Piece {
	return api.Piece{Text: p.Text, Sort: r.sort(p.Sort)}
}

func (r renamer) op(op api.Op) api.Op {
	renamed := copyOp(op)
	name, _, _ := strings.Cut(op.Name, "'")
	renamed.Name = r.name(name) + op.Name[len(name):]
	renamed.Args = mapped(op.Args, r.sort)
	renamed.Sort = r.sort(op.Sort)
	renamed.Pieces = mapped(op.Pieces, r.piece)
	return renamed
}

func mapped[T any](list []T, change func(T) T) []T {
	var changed []T
	for _, x := range list {
		changed = append(changed, change(x))
	}
	return changed
}
