package def_test

import (
	"strings"
	"testing"

	"voussoir/api"
	"voussoir/def"
	"voussoir/term"
)

// P6.2: all forms of terms
func TestTerm(t *testing.T) {
	for s, want := range map[string]api.Term{
		"0":                         whole(0),
		"007":                       whole(7),
		"2147483647":                whole(api.MaxInt),
		"-2147483647":               whole(-api.MaxInt),
		"-0":                        whole(0),
		"true":                      truth(1),
		"false":                     truth(0),
		`""`:                        str(""),
		`" if // 'a "`:              str(" if // 'a "),
		"'a":                        id("a"),
		"' x_1Y":                    id("x_1Y"),
		"'add":                      id("add"),
		"f()":                       app("f"),
		"f ( ) ":                    app("f"),
		"F_1(1,-1)":                 app("F_1", whole(1), whole(-1)),
		"f(g(), f(true), 'a)":       app("f", app("g"), app("f", truth(1)), id("a")),
		"X:Int":                     variable("X", "Int"),
		"x : add":                   variable("x", "add"),
		"_":                         variable("_", "Any"),
		"$":                         variable("$", "Any"),
		"[]":                        list(),
		"[ 1 , _ , $ ]":             list(whole(1), variable("_", "Any"), variable("$", "Any")),
		"[|L]":                      with(list(), "L"),
		"[1|L]":                     with(list(whole(1)), "L"),
		"[[], 1 | X]":               with(list(list(), whole(1)), "X"),
		"{}":                        table(),
		"{|M}":                      with(table(), "M"),
		"{1->2}":                    table(whole(1), whole(2)),
		"{1->-2,X:A->_|M}":          with(table(whole(1), whole(-2), variable("X", "A"), variable("_", "Any")), "M"),
		"{[]->{}, 2 -> 1, 2 -> 1}":  table(list(), table(), whole(2), whole(1), whole(2), whole(1)),
		"// a\n[ // b\n1 // c\n]\t": list(whole(1)),
	} {
		if x, f := def.Term(s); !term.Same(x, want) || f != (api.Fault{}) {
			t.Errorf("%s: %v, %v instead of %v", s, x, f, want)
		}
	}
}

// P6.2: tokens with which a term cannot go on, by their names
func TestTermSyntax(t *testing.T) {
	for name, all := range map[string][]string{
		".": {"^.", "1^.", "f^.", "f(1^."}, ",": {"^,", "f(^,", "f(1,^,", "[^,", "[1,^,", "{^,", "{1^,", "1^, 2"}, ":": {"^:A", "X:^:", "X:A^:", "1^:A", "_^:A", "$^:A", "true^:A", "'a^:A"},
		"(": {"^(1)", "f()^()", "_^()", "true^()", "'a^()", "'^(", "-^(", "X:A^(1)"}, ")": {"^)", "f(1,^)", "f([^)]", "f()^)", "-^)"}, "]": {"^]", "[1,^]", "[]^]", "{^]", "[ |^]", "[-^]"}, "}": {"^}", "{1^}", "{1 ->^}", "{1 -> 2,^}", "{|^}", "[^}"},
		"|": {"^|", "1^|", "[1,^|", "[ |^| L]", "[| L^|", "{1 ^| M}", "{1 -> ^| M}", "f(^| L)"}, "->": {"^->", "[1 ^-> 2]", "{^-> 1", "{1 -> 2 ^-> 3}", "{| M ^-> 1}", "-^->"}, "=>": {"{1 ^=> 2}", "1 ^=> 2"},
		"1": {"X:^1", "1 ^1", "f ^1", "f(1 ^1", "[1 ^1", "{1 ^1", "[| ^1", "'^1", "- ^1", "-\n^1", "-//\n^1", "_^1", "- ^001"}, "-": {"1^-1", "f^-1", "-^-1", "X:^-", "'^-"}, "a": {"1 ^a", "'a ^a", "- ^a", "-^a", "'^\"a\"", "f ^\"a\"", "[| L ^a", "[| ^\"a\"", "X:^\"a\"", "-^\"a\"", "_^a", "$^a"},
		"A": {"'^A", "' ^A", "['^A]", "'^A(1)"}, "If": {"'^If"}, "if": {"^if", "^if(1)", "^if:A", "'^if", "X:^if", "[| ^if", "f(^if)"}, "true": {"X:^true", "'^true", "[| ^true]", "- ^true"}, "new": {"^new(1)", "{1 -> ^new(1)}"},
		"'": {"f^'1(2)", "'^'a", "'a^'b", "X:^'a"}, "_": {"X:^_", "'^_", "[| ^_]", "{| ^_}", "_^_", "'^_a", "f ^_", "-^_"}, "$": {"X:^$", "[| ^$]", "'^$", "$^$"}, "": {"1 ^\"\"", "'^\"\"", "-^\"\""}, "@": {"^@"}, "<": {"1 ^< 2"}, "=": {"^= 1", "f() ^= 1"}, ";": {"[1^; 2]"},
	} {
		for _, s := range all {
			clean, line, col := marked(t, s)
			wantTermFault(t, clean, fault(api.ErrSyntax, line, col, name))
		}
	}
}

// P6.2: terms that end too early, and strings with other faults
func TestTermFaults(t *testing.T) {
	for _, s := range []string{"", " ", "// 1", "-", "'", "f", "f(", "f(1", "f(1,", "X:", "[", "[1", "[1,", "[|", "[1 | L", "{", "{1", "{1 ->", "{1 -> 2", "{1 -> 2,", "{|", "{| M", "f([{1 -> -"} {
		wantTermFault(t, s, fault(api.ErrEnd, 1, len(s)+1, ""))
		wantTermFault(t, s+" //\n ", fault(api.ErrEnd, 2, 2, ""))
	}
	wantTermFault(t, "f(!", fault(api.ErrLex, 1, 3, "!"))
	wantTermFault(t, "f(.\n +", fault(api.ErrLex, 2, 2, "+"))
	wantTermFault(t, "2147483648", fault(api.ErrLex, 1, 1, "2"))
	wantTermFault(t, "-2147483648", fault(api.ErrLex, 1, 2, "2"))
	wantTermFault(t, "1"+strings.Repeat(" ", api.MaxText), api.Fault{Code: api.ErrLimit})
	wantTermFault(t, "!"+strings.Repeat(" ", api.MaxText), api.Fault{Code: api.ErrLimit})
	if x, f := def.Term("1" + strings.Repeat(" ", api.MaxText-1)); x.N != 1 || f.Code != api.OK {
		t.Error(x, f)
	}
}

// around returns a string in which brackets stand n times around another one, with what stands before and after each time.
func around(n int, before, s, after string) string {
	return strings.Repeat(before, n) + s + strings.Repeat(after, n)
}

// P6.1, P6.2: how deep terms may be nested, in lists, applications, keys and values
func TestDeep(t *testing.T) {
	const most = api.MaxNest - 1
	inner := map[string]string{"1": "1", "-": "-1", "a b": "\"a b\"", "'": "'a", "f": "f()", "X": "X:A", "_": "_", "$": "$", "[": "[]", "{": "{}", "true": "true", "7": "007"}
	for before, after := range map[string]string{"[": "]", "f(": ")", "f(1, ": ")", "{1 -> ": "}", "{": " -> 1}", "[[], ": "| L]"} {
		for name, part := range inner {
			if y, f := def.Term(around(most, before, part, after)); f != (api.Fault{}) || !term.Valid(y) {
				t.Error(before, part, f)
			}
			s := around(most, before, "["+part+"]", after)
			col := most*len(before) + 2
			wantTermFault(t, s, fault(api.ErrDeep, 1, col, name))
			wantTermFault(t, s[:col-1+len(part)], fault(api.ErrDeep, 1, col, name))
			wantFault(t, "language e.\nlet f(1) = "+s, fault(api.ErrDeep, 2, col+11, name))
			wantFault(t, "language e.\nlet "+s+" = "+s+".", fault(api.ErrDeep, 2, col+4, name))
			wantFault(t, "language e.\nrule r : c : 1; new(1, "+s+").", fault(api.ErrDeep, 2, col+23, name))
		}
	}
	for before, last := range map[string]string{"[": "1", "f(": "1", "{": "1", "[ ": "1, 1", "g( ": "[1]"} {
		wantTermFault(t, around(most+1, before, last, ""), fault(api.ErrDeep, 1, (most+1)*len(before)+1, last[:1]))
	}
	wantTermFault(t, around(most, "[", "f(g", ""), fault(api.ErrDeep, 1, most+3, "g"))
	wantTermFault(t, around(most-1, "[", "{1 -> f(-", ""), fault(api.ErrDeep, 1, most+8, "-"))
	wantTermFault(t, around(most-1, "[", "{1 -> {2", ""), fault(api.ErrDeep, 1, most+7, "2"))
}

// P6.1, P6.2: a Rest is a part of its own, and what has no parts may stand one deeper than it.
func TestDeepRest(t *testing.T) {
	const most = api.MaxNest - 1
	for _, x := range [][2]string{{"[", "]"}, {"{", "}"}} {
		for _, s := range []string{x[0] + "| L" + x[1], x[0] + "|L" + x[1]} {
			if y, f := def.Term(around(most-1, "[", s, "]")); f != (api.Fault{}) || !term.Valid(y) {
				t.Error(s, f)
			}
			wantTermFault(t, around(most, "[", s, "]"), fault(api.ErrDeep, 1, most+1+strings.Index(s, "L"), "L"))
		}
		if y, f := def.Term(around(most, "[", x[0]+x[1], "]")); f != (api.Fault{}) || !term.Valid(y) {
			t.Error(x, f)
		}
		wantTermFault(t, around(most, "[", x[0]+"| 1", ""), fault(api.ErrSyntax, 1, most+4, "1"))
	}
}

// P6.1, P6.2: of faults at a place that is too deep the first one
func TestDeepFirst(t *testing.T) {
	deep := strings.Repeat("[", api.MaxNest)
	for s, want := range map[string]api.Fault{
		")":    fault(api.ErrSyntax, 1, 61, ")"),
		"if":   fault(api.ErrSyntax, 1, 61, "if"),
		"":     fault(api.ErrEnd, 1, 61, ""),
		"f":    fault(api.ErrDeep, 1, 61, "f"),
		"f .":  fault(api.ErrDeep, 1, 61, "f"),
		"'If":  fault(api.ErrDeep, 1, 61, "'"),
		"- 5":  fault(api.ErrDeep, 1, 61, "-"),
		"[":    fault(api.ErrDeep, 1, 61, "["),
		"\n 1": fault(api.ErrDeep, 2, 2, "1"),
	} {
		wantTermFault(t, deep+s, want)
	}
	wantTermFault(t, "[1 . "+deep+deep, fault(api.ErrSyntax, 1, 4, "."))
}

// P6.1, P6.2: how many nodes a term may have. The fault is at its first token, whatever the node is that is too many.
func TestSize(t *testing.T) {
	ones := strings.Repeat("1,", api.MaxSize-2) // with the list and a last element they are as many as there may be
	for _, s := range []string{"[" + ones + "1]", "[" + ones + "-1]", "[" + ones + "f()]", "[" + ones[:len(ones)-1] + " | L]", "[" + ones[2:] + "f(1)]", "{1 -> [" + ones[4:] + "X:A]}", "f([" + ones[6:] + "'a], g(), $)"} {
		if x, f := def.Term(s); f != (api.Fault{}) || size(t, x) != api.MaxSize {
			t.Error(s, f)
		}
	}
	for _, last := range []string{"1", "1]", "-", "'If", "f", "f(", "[", "{", "_", "$", "X:", "true", "\"\""} {
		wantTermFault(t, " ["+ones+"1,"+last, fault(api.ErrLimit, 1, 2, ""))
		wantFault(t, "language e. let f(1, 2) =\n\t["+ones+"1,"+last, fault(api.ErrLimit, 2, 2, ""))
		wantFault(t, "language e. rule r : c : 1 => 2 if f(), f(["+ones+last, fault(api.ErrLimit, 1, 41, ""))
	}
	wantTermFault(t, "["+ones+"1 | L]", fault(api.ErrLimit, 1, 1, ""))
	wantTermFault(t, "{1 -> ["+ones[4:]+"1 | L], 2", fault(api.ErrLimit, 1, 1, ""))
	for last, want := range map[string]api.Fault{
		")":  fault(api.ErrSyntax, 1, len(ones)+4, ")"),
		"if": fault(api.ErrSyntax, 1, len(ones)+4, "if"),
		"":   fault(api.ErrEnd, 1, len(ones)+4, ""),
	} {
		wantTermFault(t, "["+ones+"1,"+last, want)
	}
	wantTermFault(t, "["+ones+"1; 1, 1", fault(api.ErrSyntax, 1, len(ones)+3, ";"))
	wantTermFault(t, "["+ones+" | 1", fault(api.ErrSyntax, 1, len(ones)+3, "|"))
}

// P6.1: each term of a definition may have so many nodes.
func TestSizeOfEach(t *testing.T) {
	big := "[" + strings.Repeat("1,", api.MaxSize-2) + "1]"
	d := parsed(t, "language e. let "+big+"="+big+"if 1,"+big+". rule r:c:"+big+".")
	if size(t, d.Eqs[0].Left) != api.MaxSize || size(t, d.Eqs[0].If[1]) != api.MaxSize {
		t.Error(d.Eqs)
	}
}

// P6.2: how many parts an application may have; lists have no limit of their own
func TestKids(t *testing.T) {
	ones := strings.Repeat("1,", api.MaxArgs)
	for s, want := range map[string]api.Fault{
		"f(" + ones[:15] + ")":                      {},
		"f(" + ones + "1)":                          fault(api.ErrLimit, 1, 19, ""),
		"f(" + ones + "-1":                          fault(api.ErrLimit, 1, 19, ""),
		"f(" + ones + "g":                           fault(api.ErrLimit, 1, 19, ""),
		"f(" + ones + "'If":                         fault(api.ErrLimit, 1, 19, ""),
		"f(" + ones + ")":                           fault(api.ErrSyntax, 1, 19, ")"),
		"f(" + ones:                                 fault(api.ErrEnd, 1, 19, ""),
		"f(" + ones[:15] + " 1":                     fault(api.ErrSyntax, 1, 19, "1"),
		"[" + ones + ones + "f(" + ones[:15] + ")]": {},
		"{1 -> [g(f(" + ones + "\n[":                fault(api.ErrLimit, 2, 1, ""),
	} {
		if x, f := def.Term(s); f != want || f.Code != api.OK && x.Kind != 0 {
			t.Errorf("%s: %v instead of %v", s, f, want)
		}
	}
}

func size(t *testing.T, x api.Term) int {
	t.Helper()
	n, e := term.Size(x)
	if e != api.OK {
		t.Fatal(x, e)
	}
	return n
}
