package term

import (
	"strings"

	"voussoir/api"
	"voussoir/chars"
	"voussoir/nodes"
	"voussoir/sorts"
)

// measure returns the size and the depth of a term: ErrArg unless it is well formed. It looks no further than at what shows that: a term may be of any size.
func measure(t api.Term) (size, depth int, e api.Errno) {
	wellFormed := nodes.Visit(t, func(node api.Term, level int) bool {
		size++
		depth = max(depth, level)
		return size <= api.MaxSize && depth <= api.MaxNest && validNode(node)
	})
	if !wellFormed {
		return 0, 0, api.ErrArg
	}
	return size, depth, api.OK
}

// validNode reports whether a term is well formed as far as that does not depend on its Kids, and on the Rest's unused fields.
func validNode(t api.Term) bool {
	switch t.Kind {
	case api.KInt:
		return t.N >= -api.MaxInt && t.N <= api.MaxInt && t.Text == "" && t.Sort == "" && isLeaf(t)
	case api.KBool:
		return (t.N == 0 || t.N == 1) && t.Text == "" && t.Sort == "" && isLeaf(t)
	case api.KText:
		return t.N == 0 && chars.IsString(t.Text) && t.Sort == "" && isLeaf(t)
	case api.KId:
		return t.N == 0 && isIdentifier(t.Text) && t.Sort == "" && isLeaf(t)
	case api.KApp:
		return t.N == 0 && isOpName(t.Text) && t.Sort == "" && len(t.Kids) <= api.MaxArgs && len(t.Rest) == 0
	case api.KVar:
		return t.N == 0 && isVariable(t.Text, t.Sort) && isLeaf(t)
	case api.KList:
		return t.N == 0 && t.Text == "" && t.Sort == "" && validRest(t.Rest, api.List)
	case api.KMap:
		return t.N == 0 && t.Text == "" && t.Sort == "" && len(t.Kids)%2 == 0 && validRest(t.Rest, api.Map)
	}
	return false
}

func isLeaf(t api.Term) bool { return len(t.Kids) == 0 && len(t.Rest) == 0 }

func isIdentifier(s string) bool {
	return sorts.IsName(s) && s[0] >= 'a' && s[0] <= 'z' && s != "true" && s != "false"
}

// isUnnamed reports whether a variable is _ or $, which have no name, and are of the sort Any.
func isUnnamed(variable string) bool { return variable == "_" || variable == "$" }

func isVariable(name, sort string) bool {
	if isUnnamed(name) {
		return sort == api.Any
	}
	return sorts.IsName(name) && sorts.IsName(sort)
}

func validRest(rest []api.Term, sort string) bool {
	if len(rest) == 0 {
		return true
	}
	return len(rest) == 1 && rest[0].Kind == api.KVar && sorts.IsName(rest[0].Text) && rest[0].Sort == sort
}

func isOpName(s string) bool {
	name, frame := cutFrame(s)
	return sorts.IsName(name) && (frame == "" || len(frame) == 2 && frame[1] >= '1' && frame[1] <= '8')
}

// cutFrame returns the name of an operator or function up to a ', and the rest: that of a frame is ' and a digit (chapter 12).
func cutFrame(s string) (name, frame string) {
	if i := strings.IndexByte(s, '\''); i >= 0 {
		return s[:i], s[i:]
	}
	return s, ""
}
