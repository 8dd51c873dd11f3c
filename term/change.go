package term

import (
	"voussoir/api"
	"voussoir/nodes"
)

// follow returns where a path leads to in a term, or nil.
func follow(t *api.Term, path []int) *api.Term {
	for _, i := range path {
		if i < 0 || i >= len(t.Kids) {
			return nil
		}
		t = &t.Kids[i]
	}
	return t
}

// exchange puts each of two names in place of the other one.
type exchange struct{ a, b string }

func (x exchange) name(s string) string {
	switch s {
	case x.a:
		return x.b
	case x.b:
		return x.a
	}
	return s
}

func (x exchange) term(t api.Term) api.Term {
	switch t.Kind {
	case api.KApp:
		name, frame := cutFrame(t.Text)
		t.Text = x.name(name) + frame
	case api.KVar:
		if !isUnnamed(t.Text) {
			t.Text, t.Sort = x.name(t.Text), x.name(t.Sort)
		}
	}
	t.Kids = nodes.Each(t.Kids, x.term)
	t.Rest = nodes.Each(t.Rest, x.rest)
	return t
}

// rest leaves the sort of a Rest: it is always that of lists or maps.
func (x exchange) rest(t api.Term) api.Term {
	t.Text = x.name(t.Text)
	return t
}
