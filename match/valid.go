package match

import (
	"voussoir/api"
	"voussoir/book"
	"voussoir/nodes"
	"voussoir/sorts"
	"voussoir/term"
)

func validPlain(known *book.Book, t api.Term) bool {
	return term.Valid(t) && known.Plain(t)
}

func validSubst(known *book.Book, u api.Subst) bool {
	for i, pair := range u {
		if !sorts.IsName(pair.Var) || i > 0 && u[i-1].Var >= pair.Var || !validPlain(known, pair.Term) {
			return false
		}
	}
	return true
}

func validPattern(known *book.Book, p api.Term) bool {
	if !term.Valid(p) || !known.Fits(p) {
		return false
	}
	sortOf := map[string]string{} // of the variables with a name
	return nodes.Visit(p, func(node api.Term, _ int) bool {
		switch node.Kind {
		case api.KApp:
			_, isOp := known.Op(node.Text)
			return isOp
		case api.KMap:
			return patternKeys(node.Kids)
		case api.KVar:
			if node.Text == "_" {
				return true
			}
			sort, there := sortOf[node.Text]
			sortOf[node.Text] = node.Sort
			return node.Text != "$" && (!there || sort == node.Sort)
		}
		return true
	})
}

// patternKeys reports whether the keys of entries are such that a pattern can have them.
func patternKeys(entries []api.Term) bool {
	for i := 0; i < len(entries); i += 2 {
		key := entries[i]
		if !nodes.IsKey(key) && (key.Kind != api.KVar || key.Text == "_") {
			return false
		}
	}
	return true
}
