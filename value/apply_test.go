package value_test

import (
	"testing"

	"voussoir/api"
)

const most = api.MaxInt

// P3.2: add, sub, mul, neg
func TestArithmetic(t *testing.T) {
	wantResults(t,
		of("add", "5", whole(2), whole(3)), of("add", "-1", whole(2), whole(-3)),
		of("add", "2147483647", whole(most-1), whole(1)), of("add", "-2147483647", whole(-most), whole(0)), of("add", "0", whole(most), whole(-most)),
		of("sub", "-1", whole(2), whole(3)), of("sub", "2147483647", whole(0), whole(-most)), of("sub", "-2147483647", whole(-most), whole(0)),
		of("mul", "6", whole(2), whole(3)), of("mul", "-6", whole(2), whole(-3)), of("mul", "0", whole(0), whole(-most)),
		of("mul", "-2147483647", whole(most), whole(-1)), of("mul", "2147395600", whole(46340), whole(46340)),
		of("neg", "-5", whole(5)), of("neg", "5", whole(-5)), of("neg", "0", whole(0)), of("neg", "2147483647", whole(-most)), of("neg", "-2147483647", whole(most)),
	)
	wantError(t, base(), api.ErrRange,
		of("add", "", whole(most), whole(1)), of("add", "", whole(-most), whole(-1)), of("add", "", whole(most), whole(most)),
		of("sub", "", whole(-most), whole(1)), of("sub", "", whole(1), whole(-most)), of("sub", "", whole(-most), whole(most)),
		of("mul", "", whole(1<<16), whole(1<<15)), of("mul", "", whole(46341), whole(46341)), of("mul", "", whole(-46341), whole(46341)),
		of("mul", "", whole(most), whole(most)), of("mul", "", whole(-most), whole(most)), of("mul", "", whole(1<<30), whole(-2)),
	)
}

// P3.2: div, mod
func TestDivision(t *testing.T) {
	for _, x := range []struct {
		a, b      int
		div, left string
	}{
		{7, 2, "3", "1"}, {-7, 2, "-4", "1"}, {7, -2, "-4", "-1"}, {-7, -2, "3", "-1"},
		{6, 2, "3", "0"}, {-6, 2, "-3", "0"}, {6, -2, "-3", "0"}, {-6, -2, "3", "0"},
		{0, 5, "0", "0"}, {0, -5, "0", "0"}, {1, 5, "0", "1"}, {-1, 5, "-1", "4"}, {1, -5, "-1", "-4"}, {-1, -5, "0", "-1"},
		{most, 1, "2147483647", "0"}, {-most, -1, "2147483647", "0"}, {most, -1, "-2147483647", "0"},
		{1, most, "0", "1"}, {-1, most, "-1", "2147483646"}, {1, -most, "-1", "-2147483646"}, {most, most, "1", "0"}, {most, -2, "-1073741824", "-1"},
	} {
		wantResults(t, of("div", x.div, whole(x.a), whole(x.b)), of("mod", x.left, whole(x.a), whole(x.b)))
	}
	for _, a := range []int{0, 1, -1, most, -most} {
		wantError(t, base(), api.ErrZero, of("div", "", whole(a), whole(0)), of("mod", "", whole(a), whole(0)))
	}
}

// P3.2: lt, le, gt, ge
func TestComparisons(t *testing.T) {
	for _, x := range []struct {
		a, b           int
		lt, le, gt, ge string
	}{
		{1, 2, "true", "true", "false", "false"}, {2, 2, "false", "true", "false", "true"}, {3, 2, "false", "false", "true", "true"},
		{-2, -1, "true", "true", "false", "false"}, {-most, most, "true", "true", "false", "false"}, {most, -most, "false", "false", "true", "true"},
	} {
		a, b := whole(x.a), whole(x.b)
		wantResults(t, of("lt", x.lt, a, b), of("le", x.le, a, b), of("gt", x.gt, a, b), of("ge", x.ge, a, b))
	}
}

// P3.2: eq, ne
func TestSame(t *testing.T) {
	different := []api.Term{
		whole(0), whole(1), whole(-1), truth(0), truth(1), str(""), str("a"), str("1"), id("a"), list(), list(whole(1)), list(whole(1), whole(1)), list(list()),
		table(), table(whole(1), whole(1)), table(whole(1), whole(2)), app("nil"), app("box", whole(1)), app("box", whole(2)), app("plus", whole(1), whole(1)), app("plus'1", whole(1)),
	}
	for i, a := range different {
		for j, b := range different {
			if i == j {
				wantResults(t, of("eq", "true", a, b), of("ne", "false", a, b))
			} else {
				wantResults(t, of("eq", "false", a, b), of("ne", "true", a, b))
			}
		}
	}
	empty := api.Term{Kind: api.KList, Kids: []api.Term{}, Rest: []api.Term{}}
	wantResults(t, of("eq", "true", list(), empty), of("ne", "false", empty, list()))
}

// P3.2: and, or, not, pick
func TestBools(t *testing.T) {
	no, yes := truth(0), truth(1)
	wantResults(t,
		of("and", "false", no, no), of("and", "false", no, yes), of("and", "false", yes, no), of("and", "true", yes, yes),
		of("or", "false", no, no), of("or", "true", no, yes), of("or", "true", yes, no), of("or", "true", yes, yes),
		of("not", "true", no), of("not", "false", yes),
		of("pick", "1", yes, whole(1), id("b")), of("pick", "'b", no, whole(1), id("b")),
		of("pick", "[plus(1, 2)]", yes, list(app("plus", whole(1), whole(2))), no), of("pick", "{}", no, yes, table()),
	)
}

// P3.2: cat, text
func TestTexts(t *testing.T) {
	wantResults(t,
		of("cat", `"abc"`, str("ab"), str("c")), of("cat", `""`, str(""), str("")), of("cat", `"a"`, str("a"), str("")), of("cat", `" ~"`, str(" "), str("~")),
		of("cat", `"`+letters(200)+`"`, str(letters(150)), str(letters(50))), of("cat", `"`+letters(200)+`"`, str(""), str(letters(200))),
		of("text", `"12"`, whole(12)), of("text", `"-12"`, whole(-12)), of("text", `"0"`, whole(0)), of("text", `"2147483647"`, whole(most)), of("text", `"-2147483647"`, whole(-most)),
	)
	wantError(t, base(), api.ErrRange,
		of("cat", "", str(letters(150)), str(letters(51))), of("cat", "", str(letters(200)), str("a")), of("cat", "", str("a"), str(letters(200))), of("cat", "", str(letters(200)), str(letters(200))),
	)
}

// P3.2: length, join
func TestLists(t *testing.T) {
	wantResults(t,
		of("length", "0", list()), of("length", "2", list(whole(7), list(whole(1), whole(2)))), of("length", "1999", many(1999)),
		of("join", "[1, 2, 'a]", list(whole(1)), list(whole(2), id("a"))), of("join", "[]", list(), list()), of("join", "[1]", list(whole(1)), list()), of("join", "[[1]]", list(), nested(2, whole(1))),
	)
}

// some returns a map with a key of each kind.
func some() api.Term {
	return table(whole(-3), str("low"), whole(7), list(whole(1)), str("a"), whole(1), str("b"), whole(2), id("a"), whole(3), id("c"), table())
}

// P3.2: get, has
func TestGet(t *testing.T) {
	for _, x := range []struct {
		key  api.Term
		want string
	}{
		{whole(-3), `"low"`}, {whole(7), "[1]"}, {str("a"), "1"}, {str("b"), "2"}, {id("a"), "3"}, {id("c"), "{}"},
	} {
		wantResults(t, of("get", x.want, some(), x.key), of("has", "true", some(), x.key))
	}
	for _, key := range []api.Term{whole(-4), whole(0), whole(8), str(""), str("ab"), str("c"), id("b"), id("d"), truth(1), truth(0), list(), list(whole(7)), table(), app("nil"), nested(50, whole(7))} {
		wantError(t, base(), api.ErrNone, of("get", "", some(), key))
		wantError(t, base(), api.ErrNone, of("get", "", table(), key))
		wantResults(t, of("has", "false", some(), key), of("has", "false", table(), key))
	}
}

// P3.2: put
func TestPut(t *testing.T) {
	m := table(whole(1), whole(10), str("a"), whole(20), id("a"), whole(30))
	wantResults(t,
		of("put", "{1 -> 1}", table(), whole(1), whole(1)),
		of("put", "{-1 -> 0, 1 -> 10, \"a\" -> 20, 'a -> 30}", m, whole(-1), whole(0)),
		of("put", "{1 -> 10, 2 -> [], \"a\" -> 20, 'a -> 30}", m, whole(2), list()),
		of("put", "{1 -> 10, \"\" -> true, \"a\" -> 20, 'a -> 30}", m, str(""), truth(1)),
		of("put", "{1 -> 10, \"a\" -> 20, \"ab\" -> 0, 'a -> 30}", m, str("ab"), whole(0)),
		of("put", "{1 -> 10, \"a\" -> 20, 'a -> 30, 'b -> nil()}", m, id("b"), app("nil")),
		of("put", "{1 -> {}, \"a\" -> 20, 'a -> 30}", m, whole(1), table()),
		of("put", "{1 -> 10, \"a\" -> 'x, 'a -> 30}", m, str("a"), id("x")),
		of("put", "{1 -> 10, \"a\" -> 20, 'a -> 0}", m, id("a"), whole(0)),
	)
	for _, key := range []api.Term{truth(0), truth(1), list(), list(whole(1)), table(), app("nil"), app("box", whole(1))} {
		wantError(t, base(), api.ErrKind, of("put", "", m, key, whole(1)), of("put", "", table(), key, whole(1)))
	}
}

// P3.2: del, keys, size
func TestEntries(t *testing.T) {
	m := table(whole(1), whole(10), str("a"), whole(20), id("a"), whole(30))
	wantResults(t,
		of("del", "{\"a\" -> 20, 'a -> 30}", m, whole(1)), of("del", "{1 -> 10, 'a -> 30}", m, str("a")), of("del", "{1 -> 10, \"a\" -> 20}", m, id("a")),
		of("del", "{}", table(id("a"), whole(1)), id("a")), of("del", "{}", table(), id("a")),
		of("keys", "[1, \"a\", 'a]", m), of("keys", "[]", table()), of("keys", "[-3, 7, \"a\", \"b\", 'a, 'c]", some()),
		of("size", "3", m), of("size", "0", table()), of("size", "999", numbered(999)),
	)
	for _, key := range []api.Term{whole(0), whole(2), str("b"), id("b"), truth(1), list(), table(), app("nil")} {
		wantResults(t, of("del", "{1 -> 10, \"a\" -> 20, 'a -> 30}", m, key))
	}
}

// P3.2: is
func TestIs(t *testing.T) {
	for _, x := range []struct {
		term api.Term
		are  []string
	}{
		{whole(1), []string{"Any", "Int", "Exp", "Pgm"}}, {id("a"), []string{"Any", "Id", "Exp", "Pgm"}}, {truth(1), []string{"Any", "Bool"}}, {str("Int"), []string{"Any", "Text"}},
		{list(whole(1)), []string{"Any", "List"}}, {table(), []string{"Any", "Map", "Pgm"}}, {app("plus", whole(1), id("a")), []string{"Any", "Exp", "Pgm"}},
		{app("plus'1", whole(1)), []string{"Any", "Exp", "Pgm"}}, {app("nil"), []string{"Any", "Pgm"}}, {app("box", whole(1)), []string{"Any", "Alone"}},
	} {
		want := map[string]string{"Any": "false", "Int": "false", "Bool": "false", "Text": "false", "Id": "false", "List": "false", "Map": "false", "Exp": "false", "Pgm": "false", "Alone": "false"}
		for _, sort := range x.are {
			want[sort] = "true"
		}
		for sort, holds := range want {
			wantResults(t, of("is", holds, x.term, str(sort)))
		}
		for _, name := range []string{"", "x", "int", "Nothing", "plus", "len", "add", "Int ", letters(200)} {
			wantError(t, base(), api.ErrName, of("is", "", x.term, str(name)))
		}
	}
}

// P3.2: isvalue
func TestIsValue(t *testing.T) {
	wantResults(t,
		of("isvalue", "true", whole(1)), of("isvalue", "true", id("a")), of("isvalue", "true", truth(0)), of("isvalue", "true", app("plus", whole(1), whole(2))),
		of("isvalue", "false", str("a")), of("isvalue", "false", list(whole(1))), of("isvalue", "false", table()), of("isvalue", "false", app("nil")), of("isvalue", "false", app("box", whole(1))),
	)
}
