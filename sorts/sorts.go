// Package sorts is layer 1: see shared/doc/01-sorts.md.
package sorts

import (
	"slices"

	"voussoir/api"
	"voussoir/chars"
)

// Valid reports whether a signature is valid.
func Valid(s api.Sig) bool {
	_, e := open(s)
	return e == api.OK
}

// AtMost reports whether a sort is at most another one.
func AtMost(s api.Sig, a, b string) (bool, api.Errno) {
	known, e := open(s, a, b)
	if e != api.OK {
		return false, e
	}
	return known.atMost(a, b), api.OK
}

// Meet reports whether two sorts meet.
func Meet(s api.Sig, a, b string) (bool, api.Errno) {
	known, e := open(s, a, b)
	if e != api.OK {
		return false, e
	}
	return known.atMost(a, b) || known.atMost(b, a), api.OK
}

// Exists reports whether a sort exists.
func Exists(s api.Sig, a string) (bool, api.Errno) {
	known, e := open(s)
	if e != api.OK {
		return false, e
	}
	return known.exist(a), api.OK
}

// Find returns an operator.
func Find(s api.Sig, name string) (api.Op, api.Errno) {
	known, e := open(s)
	if e != api.OK {
		return api.Op{}, e
	}
	return lookUp(known.ops, name)
}

// Fun returns a function.
func Fun(s api.Sig, name string) (api.Op, api.Errno) {
	known, e := open(s)
	if e != api.OK {
		return api.Op{}, e
	}
	return lookUp(known.funs, name)
}

// Above returns all sorts that a sort is at most.
func Above(s api.Sig, a string) ([]string, api.Errno) {
	known, e := open(s, a)
	if e != api.OK {
		return nil, e
	}
	return known.sortsThat(func(b string) bool { return known.atMost(a, b) }), api.OK
}

// Under returns all sorts that are at most a sort.
func Under(s api.Sig, a string) ([]string, api.Errno) {
	known, e := open(s, a)
	if e != api.OK {
		return nil, e
	}
	return known.sortsThat(func(b string) bool { return known.atMost(b, a) }), api.OK
}

// Value reports whether a sort is one of values.
func Value(s api.Sig, a string) (bool, api.Errno) {
	known, e := open(s, a)
	if e != api.OK {
		return false, e
	}
	return slices.ContainsFunc(s.Values, func(b string) bool { return known.atMost(a, b) }), api.OK
}

// BuiltIn reports whether a function is built in.
func BuiltIn(name string) bool {
	switch name {
	case "add", "sub", "mul", "div", "mod", "neg",
		"lt", "le", "gt", "ge", "eq", "ne",
		"and", "or", "not", "pick",
		"cat", "length", "text", "join",
		"get", "put", "has", "del", "keys", "size",
		"is", "isvalue":
		return true
	}
	return false
}

// IsName reports whether s is a name.
func IsName(s string) bool {
	return s != "" && len(s) <= api.MaxName && chars.IsLetter(s[0]) && chars.All(s, chars.IsNameByte)
}

// Same reports whether two signatures are the same.
func Same(a, b api.Sig) bool {
	return slices.Equal(a.Sorts, b.Sorts) &&
		slices.Equal(a.Below, b.Below) &&
		slices.EqualFunc(a.Ops, b.Ops, sameOp) &&
		slices.EqualFunc(a.Funs, b.Funs, sameOp) &&
		slices.Equal(a.Values, b.Values)
}

func sameOp(a, b api.Op) bool {
	return a.Name == b.Name &&
		slices.Equal(a.Args, b.Args) &&
		a.Sort == b.Sort &&
		slices.Equal(a.Pieces, b.Pieces) &&
		a.Prec == b.Prec &&
		a.Assoc == b.Assoc &&
		slices.Equal(a.Strict, b.Strict)
}
