package term

import (
	"voussoir/api"
	"voussoir/book"
)

// fits reports whether a well formed term fits a signature.
func fits(known *book.Book, t api.Term) bool {
	return visit(t, 1, func(node api.Term, _ int) bool {
		switch node.Kind {
		case api.KVar:
			return known.Exists(node.Sort)
		case api.KApp:
			op, ok := known.Find(node.Text)
			return ok && takes(known, op, node.Kids, known.Meet)
		}
		return true
	})
}

// plain reports whether a well formed term is plain.
func plain(known *book.Book, t api.Term) bool {
	return visit(t, 1, func(node api.Term, _ int) bool {
		switch node.Kind {
		case api.KVar:
			return false
		case api.KApp:
			op, ok := known.Op(node.Text)
			return ok && takes(known, op, node.Kids, known.AtMost)
		case api.KMap:
			return plainKeys(node.Kids)
		}
		return true
	})
}

// takes reports whether there are as many kids as an operator or function has arguments, and the sort of each is allowed for its argument.
func takes(known *book.Book, op api.Op, kids []api.Term, allowed func(sort, arg string) bool) bool {
	if len(kids) != len(op.Args) {
		return false
	}
	for i, kid := range kids {
		sort, ok := known.Sort(kid)
		if !ok || !allowed(sort, op.Args[i]) {
			return false
		}
	}
	return true
}

// plainKeys reports whether the keys of entries are integers, strings and identifiers, all different, rising.
func plainKeys(entries []api.Term) bool {
	for i := 0; i < len(entries); i += 2 {
		switch entries[i].Kind {
		case api.KInt, api.KText, api.KId:
		default:
			return false
		}
		if i > 0 && compare(entries[i-2], entries[i]) >= 0 {
			return false
		}
	}
	return true
}
