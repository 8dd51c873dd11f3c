package book

import (
	"voussoir/api"
	"voussoir/nodes"
)

// Fits reports whether a well formed term fits the signature.
func (b *Book) Fits(t api.Term) bool {
	return nodes.Visit(t, func(node api.Term, _ int) bool {
		switch node.Kind {
		case api.KVar:
			return b.Exists(node.Sort)
		case api.KApp:
			op, ok := b.Find(node.Text)
			return ok && b.takes(op, node.Kids, b.Meet)
		}
		return true
	})
}

// Plain reports whether a well formed term is plain.
func (b *Book) Plain(t api.Term) bool {
	return nodes.Visit(t, func(node api.Term, _ int) bool {
		switch node.Kind {
		case api.KVar:
			return false
		case api.KApp:
			op, ok := b.Op(node.Text)
			return ok && b.takes(op, node.Kids, b.AtMost)
		case api.KMap:
			return plainKeys(node.Kids)
		}
		return true
	})
}

// takes reports whether there are as many kids as an operator or function has arguments, and the sort of each is allowed for its argument.
func (b *Book) takes(op api.Op, kids []api.Term, allowed func(sort, arg string) bool) bool {
	if len(kids) != len(op.Args) {
		return false
	}
	for i, kid := range kids {
		sort, ok := b.Sort(kid)
		if !ok || !allowed(sort, op.Args[i]) {
			return false
		}
	}
	return true
}

// plainKeys reports whether the keys of entries are integers, strings and identifiers, all different, rising.
func plainKeys(entries []api.Term) bool {
	for i := 0; i < len(entries); i += 2 {
		if !nodes.IsKey(entries[i]) || i > 0 && nodes.Compare(entries[i-2], entries[i]) >= 0 {
			return false
		}
	}
	return true
}
