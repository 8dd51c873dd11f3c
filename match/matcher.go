package match

import (
	"slices"

	"voussoir/api"
	"voussoir/book"
	"voussoir/term"
)

// matcher holds one pattern's parts against those of a term. That is a plain one, or another pattern, whose variables then stand for themselves.
type matcher struct {
	*book.Book
	names  []string       // of the variables of the pattern, rising
	number map[string]int // the index of each of them
}

// binding has, for each variable of a pattern, its term; nil: it has none.
type binding []*api.Term

// part is a part of a pattern, and the one of a term which it has to match.
type part struct{ p, t api.Term }

func newMatcher(known *book.Book, p api.Term) matcher {
	names, _ := term.Vars(p)
	number := map[string]int{}
	for i, name := range names {
		number[name] = i
	}
	return matcher{known, names, number}
}

// binding returns what a substitution has of the pattern's variables.
func (m matcher) binding(u api.Subst) binding {
	b := make(binding, len(m.names))
	for i, pair := range u {
		if n, ok := m.number[pair.Var]; ok {
			b[n] = &u[i].Term
		}
	}
	return b
}

// subst returns a substitution together with a binding that has a term for each variable, and that has come of it. It is new memory.
func (m matcher) subst(u api.Subst, b binding) api.Subst {
	var all api.Subst
	for _, pair := range u {
		if _, ok := m.number[pair.Var]; !ok {
			all = append(all, pair)
		}
	}
	for i, t := range b {
		all = append(all, api.Pair{Var: m.names[i], Term: *t})
	}
	return joined(all)
}

// bind gives a variable a term; it reports whether it has no other one.
func (m matcher) bind(b binding, variable, t api.Term) bool {
	if m.clash(b, variable, t) {
		return false
	}
	if variable.Text != "_" {
		b[m.number[variable.Text]] = &t
	}
	return true
}

// held returns the term of a pattern that is a variable, if it has one.
func (m matcher) held(b binding, p api.Term) *api.Term {
	if p.Kind != api.KVar || p.Text == "_" {
		return nil
	}
	return b[m.number[p.Text]]
}

// clash reports whether a pattern is a variable that has another term.
func (m matcher) clash(b binding, p, t api.Term) bool {
	old := m.held(b, p)
	return old != nil && !term.Same(*old, t)
}

// top reports whether a pattern can match a term as far as what they are themselves says, and not what is in them.
func (m matcher) top(p, t api.Term) bool {
	switch p.Kind {
	case api.KVar:
		sort, ok := m.Sort(t)
		return ok && m.AtMost(sort, p.Sort)
	case api.KApp:
		return t.Kind == api.KApp && t.Text == p.Text
	case api.KList, api.KMap:
		return t.Kind == p.Kind
	}
	return term.Same(p, t)
}

// asLong reports whether a term has as many Kids as a pattern, or, if that has a Rest, at least as many. A Rest of the term can be matched by one alone.
func asLong(p, t api.Term) bool {
	if len(p.Rest) > 0 {
		return len(t.Kids) >= len(p.Kids)
	}
	return len(t.Kids) == len(p.Kids) && len(t.Rest) == 0
}

// parts returns the parts of a pattern without entries, and of a term that is as long.
func parts(p, t api.Term) []part {
	var all []part
	for i, kid := range p.Kids {
		all = append(all, part{kid, t.Kids[i]})
	}
	for _, rest := range p.Rest {
		all = append(all, part{rest, end(t, t.Kids[len(p.Kids):])})
	}
	return all
}

// end returns the list or map of some Kids and the Rest, or that variable, if it is all.
func end(t api.Term, kids []api.Term) api.Term {
	if len(kids) == 0 && len(t.Rest) > 0 {
		return t.Rest[0]
	}
	return api.Term{Kind: t.Kind, Kids: kids, Rest: t.Rest}
}

// entry is one of a map.
type entry struct{ key, value api.Term }

func entries(t api.Term) []entry {
	var all []entry
	for i := 0; i < len(t.Kids); i += 2 {
		all = append(all, entry{t.Kids[i], t.Kids[i+1]})
	}
	return all
}

// suits reports whether the key and the value of a pattern's entry can match those of a map's, as top says. A key that has a term stands for it, of whatever sort that is: it may have been given.
func (m matcher) suits(b binding, mine, its entry) bool {
	return (m.held(b, mine.key) != nil || m.top(mine.key, its.key)) && m.top(mine.value, its.value)
}

// suited returns which entries of a map, by their indices, suit one of a pattern.
func (m matcher) suited(b binding, mine entry, its []entry) []int {
	var found []int
	for i, it := range its {
		if m.suits(b, mine, it) {
			found = append(found, i)
		}
	}
	return found
}

// ends returns what is left to match of two maps when all entries of the pattern have taken one, and some are left.
func ends(p, t api.Term, left []int) part {
	kids := make([]api.Term, 0, 2*len(left))
	for _, i := range left {
		kids = append(kids, t.Kids[2*i], t.Kids[2*i+1])
	}
	p.Kids, t.Kids = nil, kids
	return part{p, t}
}

// upTo returns the numbers from 0 on that are below n.
func upTo(n int) []int {
	all := make([]int, n)
	for i := range all {
		all[i] = i
	}
	return all
}

// less returns numbers, rising, without one of them; ok tells whether it is there.
func less(all []int, n int) (others []int, ok bool) {
	at, ok := slices.BinarySearch(all, n)
	if !ok {
		return nil, false
	}
	return slices.Concat(all[:at], all[at+1:]), true
}
