// Package book answers questions about one signature, again and again: a layer opens it once for a call.
package book

import (
	"slices"

	"voussoir/api"
	"voussoir/sorts"
)

// Book is that of a valid signature. Each question to package sorts makes it look at the whole signature: the answers are remembered.
type Book struct {
	sig   api.Sig
	ops   map[string]api.Op
	funs  map[string]api.Op
	above map[string][]string // each sort that was asked for, with those that it is at most
}

// Open returns the book of a signature: ErrArg unless that is valid.
func Open(s api.Sig) (*Book, api.Errno) {
	if !sorts.Valid(s) {
		return nil, api.ErrArg
	}
	return &Book{sig: s, ops: byName(s.Ops), funs: byName(s.Funs), above: map[string][]string{}}, api.OK
}

func byName(ops []api.Op) map[string]api.Op {
	named := map[string]api.Op{}
	for _, op := range ops {
		named[op.Name] = op
	}
	return named
}

// over returns all sorts that a sort is at most: none, if it does not exist.
func (b *Book) over(sort string) []string {
	list, asked := b.above[sort]
	if !asked {
		list, _ = sorts.Above(b.sig, sort)
		b.above[sort] = list
	}
	return list
}

// Exists reports whether a sort exists.
func (b *Book) Exists(sort string) bool { return len(b.over(sort)) > 0 }

// AtMost reports whether a sort is at most another one; both exist.
func (b *Book) AtMost(low, high string) bool {
	return low == high || high == api.Any || slices.Contains(b.over(low), high)
}

// Meet reports whether two sorts meet; both exist.
func (b *Book) Meet(one, other string) bool {
	return b.AtMost(one, other) || b.AtMost(other, one)
}

// Value reports whether a sort that exists is at most one of the signature's Values.
func (b *Book) Value(sort string) bool {
	return slices.ContainsFunc(b.sig.Values, func(value string) bool { return b.AtMost(sort, value) })
}

// Op returns an operator, which shares the signature's memory.
func (b *Book) Op(name string) (api.Op, bool) {
	op, ok := b.ops[name]
	return op, ok
}

// Find returns an operator, a function or a built-in function; the first two share the signature's memory.
func (b *Book) Find(name string) (api.Op, bool) {
	if op, ok := b.ops[name]; ok {
		return op, true
	}
	if fun, ok := b.funs[name]; ok {
		return fun, true
	}
	return BuiltIn(name)
}

// Sort returns the sort of a well formed term, if what stands at its top is there.
func (b *Book) Sort(t api.Term) (string, bool) {
	switch t.Kind {
	case api.KInt:
		return api.Int, true
	case api.KBool:
		return api.Bool, true
	case api.KText:
		return api.Text, true
	case api.KId:
		return api.Id, true
	case api.KApp:
		op, ok := b.Find(t.Text)
		return op.Sort, ok
	case api.KList:
		return api.List, true
	case api.KMap:
		return api.Map, true
	}
	if t.Kind != api.KVar || !b.Exists(t.Sort) {
		return "", false
	}
	return t.Sort, true
}
