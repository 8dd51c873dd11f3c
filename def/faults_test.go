package def_test

import (
	"slices"
	"strings"
	"testing"

	"voussoir/api"
	"voussoir/def"
	"voussoir/lex"
)

// marked returns a string without the mark ^ that stands in it, and where that stands.
func marked(t *testing.T, s string) (clean string, line, col int) {
	t.Helper()
	before, after, ok := strings.Cut(s, "^")
	if !ok {
		t.Fatal("no mark:", s)
	}
	return before + after, 1 + strings.Count(before, "\n"), len(before) - strings.LastIndex(before, "\n")
}

// wantMarked looks whether a definition has a fault where the mark is.
func wantMarked(t *testing.T, s string, code api.Errno, name string) {
	t.Helper()
	clean, line, col := marked(t, s)
	wantFault(t, clean, fault(code, line, col, name))
}

// P6.1: tokens with which a definition cannot go on, by their names
func TestSyntax(t *testing.T) {
	for name, all := range map[string][]string{
		"x":        {"^x", "^x language e.", "language e. ^x", "language e. sort A.\n\n\tvalue B // x\n ^x."},
		"language": {"^\"language\" e.", "language e. ^language f.", "language ^language."},
		"sort":     {"^sort A.", "language e. ^\"sort\" A.", "language ^sort.", "language e. start ^sort."},
		"B":        {"language e. sort A ^B.", "language e. op a : -> A ^B.", "language e. value A ^\"B\".", "language e. fun f : -> A ^B."},
		"a":        {"language e. op ^\"a\" :", "language e. fun f : ^\"a\" -> A.", "language e. op a : -> A strict(^a)", "language e. rule r : drop ^a.", "language e. let f() = 1 ^a", "language ^\"a\"."},
		"k":        {"language e. rule r ^k : 1.", "language e. cell ^\"k\" : A = 1.", "language e. watch ^\"k\"."},
		"if":       {"language e. ^if", "language e. let f() = 1 ^\"if\" true.", "language e. let f() = 1 if true, ^if.", "language e. rule r : ^if true.", "language e. let f() = ^if.", "language e. op a : ^if -> A."},
		"left":     {"language e. op a : -> A prec ^left", "language e. op a : -> A ^\"left\".", "language e. ^left"},
		"prec":     {"language e. op a : ^prec 1", "language e. fun f : -> A ^prec 1."},
		"strict":   {"language e. fun f : -> A ^strict(1)."},
		"new":      {"language e. ^new(1).", "language e. rule r : ^\"new\"(1).", "language e. rule ^new : c : 1.", "language e. rule r : c : ^new(1)."},
		"drop":     {"language e. rule r : c@^drop : 1."},
		"true":     {"language e. ^true.", "language e. start ^true.", "language e. rule r : ^true : 1."},
		"false":    {"language e. let f() = 1 if true ^false."},
		"rule":     {"language e. rule r : c : 1 ^rule s : c : 1."},
		"start":    {"language e. sort A ^start B."},
		"1":        {"language ^1.", "language e. subsort ^1 < B.", "language e. rule r : c ^1", "language e. rule r : c@^1 : 1.", "language e. op a : -> A strict ^1.", "language e. rule r : new ^1"},
		"6":        {"language e. op a : -> A prec 5 ^6.", "language e. ^006."},
		"":         {"language ^\"\".", "language e. ^\"\"."},
		".":        {"^.", "language e.^.", "language e. sort ^.", "language e. sort A, ^.", "language e. op a : A ^.", "language e. op a : -> A strict(1^.", "language e. let f()^.", "language e. let f() = ^.", "language e. let f() = 1 if ^.", "language e. let f() = 1 if true, ^.", "language e. cell c : A = ^.", "language e. rule r : ^.", "language e. rule r : c^.", "language e. rule r : c : 1; ^.", "language e. rule r : c : 1 => ^."},
		",":        {"language e^, f.", "language e. sort A,^, B.", "language e. subsort A < B^, C < D.", "language e. op a : A^, B -> C.", "language e. fun f : A^, B -> C.", "language e. let f() = 1^,", "language e. start A^, B.", "language e. cell c : A = 1^, d : A = 1.", "language e. many t(c : A = 1)^,", "language e. rule r : c : 1^, d : 1.", "language e. rule r : drop@a^, b."},
		";":        {"language e. value A^; B", "language e. op a : -> A^;", "language e. many t(c : A = 1^; d : A = 1).", "language e. rule r : c : 1 if true^; d : 2", "language e. rule r : new(1^;"},
		":":        {"language e^:", "language e. cell ^: A = 1.", "language e. many t^: A = 1", "language e. rule r :^: c : 1."},
		"=":        {"language e. subsort A ^= B.", "language e. let ^= 1.", "language e. cell c ^= 1."},
		"<":        {"language e. subsort ^< B.", "language e. sort A ^< B."},
		"->":       {"language e. op a ^-> A", "language e. cell c : A ^-> 1", "language e. rule r : c : 1 ^-> 2"},
		"=>":       {"language e. let f() ^=> 1.", "language e. rule r : c : 1 => 2 ^=> 3", "language e. rule r : new(1) ^=> new(2)", "language e. rule r : drop@a ^=> 1"},
		"-":        {"language e. op a : -> A prec ^-5.", "language e. op a : -> A strict(^-1).", "language ^-1."},
		"_":        {"language ^_.", "language ^_e.", "language e. sort ^_.", "language e. rule r : ^_ : 1."},
		"'":        {"language e. start ^'a.", "language e. cell c : ^'a = 1.", "language e. rule r : drop@^'a.", "language e. op a^'1 : -> A."},
		"$":        {"language e. start ^$.", "^$"},
		"(":        {"language e. watch ^(c).", "language e. op a : -> A prec^(1).", "language e. rule r : c^(1)."},
		")":        {"language e. op a : -> A strict(^).", "language e. op a : -> A strict(1,^).", "language e. many t(^).", "language e. many t(c : A = 1,^).", "language e. rule r : new(^).", "language e. rule r : new(1,^)."},
		"@":        {"language e. rule r : new^@a(1).", "language e. rule r : c@a^@b : 1.", "language e. many t^@a(c : A = 1).", "language e. rule r ^@a : c : 1."},
		"|":        {"language e. sort A ^| B.", "language e. let f() = 1 ^| L."},
	} {
		for _, s := range all {
			wantMarked(t, s, api.ErrSyntax, name)
		}
	}
}

// wantReserved looks whether in no place, which a mark shows, one of some words can stand, but another name can.
func wantReserved(t *testing.T, places, words []string) {
	t.Helper()
	for _, s := range places {
		for _, word := range words {
			wantMarked(t, strings.Replace(s, "^", "^"+word, 1), api.ErrSyntax, word)
		}
		parsed(t, strings.Replace(s, "^", "free", 1))
	}
}

// P6.1: a reserved name is no name, wherever one stands.
func TestReserved(t *testing.T) {
	all := strings.Fields(words)
	wantReserved(t, []string{
		"language ^.", "language e. start ^.", "language e. watch ^.",
		"language e. sort ^.", "language e. sort A, ^.", "language e. subsort ^ < A.", "language e. subsort A < ^.", "language e. value ^.", "language e. value A, ^.",
		"language e. op ^ : -> A.", "language e. op a : ^ -> A.", "language e. op a : A \"a\" ^ -> A.", "language e. op a : -> ^.",
		"language e. fun ^ : -> A.", "language e. fun f : ^ -> A.", "language e. fun f : A ^ -> A.", "language e. fun f : -> ^.",
		"language e. let f() = X:^.", "language e. let f() = '^.", "language e. let f() = [| ^].", "language e. let f() = [1 | ^].", "language e. let f() = {| ^}.",
		"language e. cell ^ : A = 1.", "language e. cell c : ^ = 1.", "language e. many ^(c : A = 1).", "language e. many t(^ : A = 1).", "language e. many t(c : ^ = 1).",
		"language e. rule ^ : c : 1.", "language e. rule r : c@^ : 1.", "language e. rule r : drop@^.",
	}, all)
	// With true and false terms begin, with new and drop parts of rules.
	wantReserved(t, []string{"language e. let ^(1) = 1.", "language e. let ^:A = 1.", "language e. let f() = g(^()).", "language e. let f() = [1, ^:A].", "language e. let f() = {^:A -> 1}.", "language e. let f() = {1 -> ^()}.", "language e. cell c : A = ^()."}, all[:19])
	wantReserved(t, []string{"language e. rule r : ^ : 1.", "language e. rule r : ^@a : 1.", "language e. rule r : drop@a; ^@a : 1."}, append(slices.Clone(all[:17]), all[19:]...))
	for _, word := range all {
		if d := parsed(t, "language e. op o : \""+word+"\" -> A. let f() = \""+word+"\"."); d.Sig.Ops[0].Pieces[0].Text != word || d.Eqs[0].Right.Text != word {
			t.Error(word, d)
		}
	}
}

// P6.1: a definition that ends too early. Each beginning of one does, but where an item has ended.
func TestEnd(t *testing.T) {
	for s, want := range map[string]api.Fault{
		"":                                  fault(api.ErrEnd, 1, 1, ""),
		"  ":                                fault(api.ErrEnd, 1, 3, ""),
		"\n":                                fault(api.ErrEnd, 2, 1, ""),
		"// language e.":                    fault(api.ErrEnd, 1, 15, ""),
		"language":                          fault(api.ErrEnd, 1, 9, ""),
		"language e\n//\n x":                fault(api.ErrSyntax, 3, 2, "x"),
		"language e\n//":                    fault(api.ErrEnd, 2, 3, ""),
		"language e. sort A // .\n\t":       fault(api.ErrEnd, 2, 2, ""),
		"language e. let f() = -":           fault(api.ErrEnd, 1, 24, ""),
		"language e. let f() = '":           fault(api.ErrEnd, 1, 24, ""),
		"language e. op a : \"x\"":          fault(api.ErrEnd, 1, 23, ""),
		"language e. op a : -> A prec":      fault(api.ErrEnd, 1, 29, ""),
		"language e. rule r : c : 1 if ":    fault(api.ErrEnd, 1, 31, ""),
		"language e. many t(c : A = 1":      fault(api.ErrEnd, 1, 29, ""),
		"language e. rule r : new(1); drop": fault(api.ErrEnd, 1, 34, ""),
		"language e.\r\nsort A\n\n":         fault(api.ErrEnd, 4, 1, ""),
	} {
		wantFault(t, s, want)
	}
	all, _ := lex.Definition(full)
	ended, early := 0, 0
	for i := range len(full) {
		s := full[:i]
		tokens, f := lex.Definition(s)
		if n := len(tokens); f.Code != api.OK || !slices.Equal(tokens, all[:n]) {
			continue // a token is cut
		}
		if strings.HasSuffix(strings.TrimRight(s, "\n"), ".") {
			ended++
			parsed(t, s)
		} else {
			early++
			wantFault(t, s, fault(api.ErrEnd, 1+strings.Count(s, "\n"), i-strings.LastIndex(s, "\n"), ""))
		}
	}
	if ended < 30 || early < 300 {
		t.Error("few beginnings:", ended, early)
	}
}

// P6.1: what may be there once
func TestTwice(t *testing.T) {
	for name, all := range map[string][]string{
		"start":  {"language e. start A. ^start A.", "language e. start A.\nsort A.\n ^start B.", "language e. start A. ^start", "language e. start A. ^start ."},
		"watch":  {"language e. watch a. ^watch b.", "language e. start A. watch a. ^watch a."},
		"many":   {"language e. many t(c : A = 1). ^many t(c : A = 1).", "language e. many t(c : A = 1). cell c : A = 1. ^many u"},
		"prec":   {"language e. op a : -> A prec 1 ^prec 2.", "language e. op a : -> A prec 1 left ^prec 0.", "language e. op a : -> A prec 1 strict(1) right ^prec."},
		"left":   {"language e. op a : -> A left ^left.", "language e. op a : -> A right ^left.", "language e. op a : -> A left prec 1 ^left."},
		"right":  {"language e. op a : -> A right ^right.", "language e. op a : -> A left strict(1)\n ^right."},
		"strict": {"language e. op a : -> A strict(1) ^strict(2).", "language e. op a : -> A strict(1, 2) prec 1 left ^strict."},
	} {
		for _, s := range all {
			wantMarked(t, s, api.ErrTwice, name)
		}
	}
	parsed(t, "language e. op a : -> A prec 1 left strict(1). op a : -> A prec 1 left strict(1). op b : -> A right.")
}

// P6.1: integers out of their ranges
func TestRange(t *testing.T) {
	for name, all := range map[string][]string{
		"0":          {"language e. op a : -> A prec ^0.", "language e. op a : -> A prec ^000 left.", "language e. op a : -> A strict(^0).", "language e. op a : -> A strict(1, 8, ^0)"},
		"9":          {"language e. op a : -> A strict(^9).", "language e. op a : -> A prec 9 strict(1,\n^09"},
		"21":         {"language e. op a : -> A prec ^21", "language e. op a : -> A strict(^21", "language e. op a : -> A prec ^21 prec"},
		"2147483647": {"language e. op a : -> A prec ^2147483647.", "language e. op a : -> A strict(^2147483647)."},
	} {
		for _, s := range all {
			wantMarked(t, s, api.ErrRange, name)
		}
	}
	for _, s := range []string{"prec 1", "prec 20", "strict(1)", "strict(8)"} {
		parsed(t, "language e. op a : -> A "+s+".")
	}
}

// P6.1: what may be there so many times, and no more. The fault is where the mark is in what is one too many.
func TestLimits(t *testing.T) {
	for _, x := range []struct {
		before, part, between, after string
		most                         int
	}{
		{"", "sort ^S.", " ", "", api.MaxSorts},
		{"sort A, B. sort ", "^S", ", ", ".", api.MaxSorts - 2},
		{"value A, B. sort ", "^S", ", ", ".", api.MaxSorts},
		{"", "^subsort A < B.", " ", "", 200},
		{"", "^op a : -> A.", "\n", "", api.MaxOps},
		{"", "^fun a : -> A.", "\n", "", api.MaxOps},
		{"", "^op a : -> A. fun f : -> A.", "\n", "", api.MaxOps / 2},
		{"op a : -> A. ", "fun f : -> A. ^op a : -> A.", "\n", "", api.MaxOps/2 - 1},
		{"", "^let f() = 1.", "\n", "", api.MaxRules},
		{"", "^rule r : c : 1.", "\n", "", api.MaxRules},
		{"", "^cell c : A = 1.", "\n", "", api.MaxCells},
		{"many t(", "^c : A = 1", ", ", ").", api.MaxCells},
		{"op a : ", "^\"x\"", " ", " -> A.", 20},
		{"op a : A A ", "^\"x\"", " ", " -> A.", 18},
		{"op a : ", "^A", " ", " -> A.", api.MaxArgs},
		{"op a : A \"x\" A ", "^A", " ", " -> A.", api.MaxArgs - 2},
		{"op a : " + strings.Repeat("\"x\" ", 20-api.MaxArgs), "^A", " ", " -> A.", api.MaxArgs},
		{"op a : " + strings.Repeat("\"x\" ", 17), "^A", " ", " -> A.", 3},
		{"fun a : ", "^A", " ", " -> A.", api.MaxArgs},
		{"rule r : ", "^c@a : 1 => 2", "; ", " if true.", 20},
		{"rule r : ", "^new(1, 2)", "; ", ".", 20},
		{"rule r : ", "^drop@a", "; ", ".", 20},
		{"rule r : new(1); c : 1; drop@a; ", "^new(1)", "; ", ".", 17},
		{"rule r : drop@a; new(1); ", "^c : 1", "; ", ".", 18},
		{"rule r : c : 1 if ", "^f(1)", ", ", ".", 20},
		{"let f() = 1 if ", "^-1", ", ", ".", 20},
		{"let f(", "^f(1)", ", ", ") = 1.", api.MaxArgs},
		{"let f() = f([], ", "^[1]", ", ", ").", api.MaxArgs - 1},
		{"cell c : A = [{1 -> f(", "^'a", ", ", ")}].", api.MaxArgs},
	} {
		all := strings.Repeat(strings.Replace(x.part, "^", "", 1)+x.between, x.most)
		begin := "language e. " + x.before
		parsed(t, begin+strings.TrimSuffix(all, x.between)+x.after)
		for _, end := range []string{"", x.after, " :"} {
			wantMarked(t, begin+all+x.part+end, api.ErrLimit, "")
		}
	}
	for _, s := range []string{"value " + strings.Join(numbered(1000, "A%d"), ", "), "op a : -> A strict(" + strings.Join(slices.Repeat([]string{"1"}, 1000), ", ") + ")", "rule r : new(" + strings.Join(numbered(1000, "%d"), ", ") + ")"} {
		parsed(t, "language e. "+s+".")
	}
}

// P6.1: where there may be no more, but something else follows: what cannot stand there at all is found first.
func TestSyntaxAtLimits(t *testing.T) {
	ones := strings.Repeat("1, ", 20)
	for _, x := range []struct{ s, name string }{
		{"sort " + strings.Join(numbered(api.MaxSorts, "A%d"), ", ") + ", ^.", "."},
		{"sort " + strings.Join(numbered(api.MaxSorts, "A%d"), ", ") + ". sort ^if", "if"},
		{"op a : " + strings.Repeat("A ", api.MaxArgs) + "^if", "if"},
		{"op a : " + strings.Repeat("\"x\" ", 20) + "^,", ","},
		{"fun a : " + strings.Repeat("A ", api.MaxArgs) + "^\"x\"", "x"},
		{"let f() = 1 if " + ones + "^.", "."},
		{"rule r : " + strings.Repeat("c : 1; ", 20) + "^5", "5"},
		{"rule r : " + strings.Repeat("c : 1; ", 20) + "^if", "if"},
		{"let f(" + ones[:3*api.MaxArgs] + "^) = 1.", ")"},
		{"many t(" + strings.Repeat("c : A = 1, ", api.MaxCells) + "^)", ")"},
	} {
		wantMarked(t, "language e. "+x.s, api.ErrSyntax, x.name)
	}
	for _, s := range []string{"sort " + strings.Join(numbered(api.MaxSorts, "A%d"), ", ") + ",", "let f() = 1 if " + ones, "let f(" + ones[:3*api.MaxArgs], "rule r : " + strings.Repeat("c : 1; ", 20)} {
		s = "language e. " + s
		wantFault(t, s, fault(api.ErrEnd, 1, len(s)+1, ""))
	}
}

// P6.1: strings that are no tokens. These faults come before all others, wherever they stand.
func TestLexFaults(t *testing.T) {
	for s, name := range map[string]string{
		"language x ^! ":                            "!",
		"^!":                                        "!",
		"language e. op a : ^+ -> A.":               "+",
		"language e. op a : ^\"x -> A.":             "\"",
		"language e. let f() = ^2147483648.":        "2",
		"language e. let f() = 1 if ^1a.":           "1",
		"language ^" + letters(api.MaxName+1) + ".": "a",
		"sort A. ^!":                                "!",
		"language if. ^!":                           "!",
		"language e. start A. start A. ^!":          "!",
		"language e. op a : -> A prec 0.\n ^\"":     "\"",
		"language e. let f() = a. // !\n^\\":        "\\",
	} {
		wantMarked(t, s, api.ErrLex, name)
	}
}

// P6.1: a string that is too long is refused, whatever it says.
func TestTooLong(t *testing.T) {
	for _, s := range []string{"language e.", "!", "x", ""} {
		long := s + strings.Repeat(" ", api.MaxText-len(s))
		if _, f := def.Parse(long); f.Code == api.ErrLimit {
			t.Errorf("%q: %v", s, f)
		}
		wantFault(t, long+" ", api.Fault{Code: api.ErrLimit})
		wantFault(t, long+"!", api.Fault{Code: api.ErrLimit})
	}
}

// P6.1: of several faults the first one
func TestFirstFault(t *testing.T) {
	for s, name := range map[string]string{
		"language e. op a : -> A ^5 prec 0.":           "5",
		"language e. let f() = g(^=) if [if].":         "=",
		"language e. cell c : A = [1 ^2]. cell d : 1.": "2",
		"language e. rule r : c : f(^:) => 1; if.":     ":",
		"language e. rule r : c : [1, ^=>]; 1 ; prec.": "=>",
	} {
		wantMarked(t, s, api.ErrSyntax, name)
	}
	wantMarked(t, "language e. start A. ^start if.", api.ErrTwice, "start")
	wantMarked(t, "language e. op a : -> A prec ^0 prec 1 if.", api.ErrRange, "0")
	wantMarked(t, "language e. "+strings.Repeat("cell c : A = 1. ", api.MaxCells)+"^cell if", api.ErrLimit, "")
}
