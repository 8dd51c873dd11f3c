package sorts

import (
	"slices"

	"voussoir/api"
)

// book finds what a signature declares by its name.
type book struct {
	highs map[string][]string // each sort that exists, with those that it is declared to be below
	ops   map[string]api.Op
	funs  map[string]api.Op
}

// open returns the book of a signature that has to be valid, and in which the sorts that are named have to exist.
func open(s api.Sig, sorts ...string) (book, api.Errno) {
	if !withinLimits(s) {
		return book{}, api.ErrArg
	}
	k := newBook(s)
	if !k.valid(s) {
		return book{}, api.ErrArg
	}
	if !k.exist(sorts...) {
		return book{}, api.ErrName
	}
	return k, api.OK
}

// newBook takes any signature: whether that is valid is found out with the book.
func newBook(s api.Sig) book {
	k := book{highs: map[string][]string{}, ops: byName(s.Ops), funs: byName(s.Funs)}
	for _, name := range slices.Concat(givenSorts(), s.Sorts) {
		k.highs[name] = nil
	}
	for _, b := range s.Below {
		if k.exist(b.Low) {
			k.highs[b.Low] = append(k.highs[b.Low], b.High)
		}
	}
	return k
}

func byName(ops []api.Op) map[string]api.Op {
	named := map[string]api.Op{}
	for _, op := range ops {
		named[op.Name] = op
	}
	return named
}

// givenSorts returns the sorts that are always there.
func givenSorts() []string {
	return []string{api.Any, api.Int, api.Bool, api.Text, api.Id, api.List, api.Map}
}

func (k book) exist(sorts ...string) bool {
	for _, name := range sorts {
		if _, ok := k.highs[name]; !ok {
			return false
		}
	}
	return true
}

// declared reports whether a sort exists that is not always there.
func (k book) declared(sort string) bool {
	return k.exist(sort) && !slices.Contains(givenSorts(), sort)
}

func (k book) atMost(a, b string) bool {
	return b == api.Any || a == b || k.over(a)[b]
}

// over returns the sorts that a sort is below. Each is visited once: there may be far more ways up than sorts, or a circle.
func (k book) over(a string) map[string]bool {
	found := map[string]bool{}
	todo := slices.Clone(k.highs[a])
	for len(todo) > 0 {
		next := todo[0]
		todo = todo[1:]
		if !found[next] {
			found[next] = true
			todo = append(todo, k.highs[next]...)
		}
	}
	return found
}

// sortsThat returns the sorts with a property, rising.
func (k book) sortsThat(have func(sort string) bool) []string {
	var found []string
	for name := range k.highs {
		if have(name) {
			found = append(found, name)
		}
	}
	slices.Sort(found)
	return found
}

func lookUp(ops map[string]api.Op, name string) (api.Op, api.Errno) {
	op, ok := ops[name]
	if !ok {
		return api.Op{}, api.ErrNone
	}
	return copyOp(op), api.OK
}

func copyOp(op api.Op) api.Op {
	op.Args = slices.Clone(op.Args)
	op.Pieces = slices.Clone(op.Pieces)
	op.Strict = slices.Clone(op.Strict)
	return op
}
