package def_test

import (
	"reflect"
	"strings"
	"testing"

	"voussoir/api"
	"voussoir/def"
)

// P6.3: strings that are as Text has them
func TestText(t *testing.T) {
	for _, s := range []string{
		sums, full, "language e.\n",
		"language e.\nsort A.\nop a : \"a\" -> A.\ncell c : A = $.\nstart A.\nwatch c.\n",
		"language e.\nmany t(c : A = 1).\n",
		"language e.\nop a : \"\" -> A prec 1 right strict(8, 8).\n",
		"language e.\nlet 1 = [true, 0 | L] if _, $.\n",
		"language e.\nlet {} = f(g(), {-1 -> -2, \"a  b\" -> [-3, 'x]}).\n",
		"language e.\nrule r : drop@a.\nrule r : new([| L]).\nrule r : c@a : {| M} => {1 -> 2 | M}.\n",
	} {
		if got := text(t, parsed(t, s)); got != s {
			t.Errorf("%s\ninstead of\n%s", got, s)
		}
	}
}

// P6.3: where blanks stand, whatever the string has that was read
func TestBlanksOfText(t *testing.T) {
	for s, want := range map[string]string{
		"language e.sort A,B.value A.sort C.value B,A.":                          "language e.\nsort A, B, C.\nvalue A, B, A.\n",
		"language e.subsort A<B.":                                                "language e.\nsubsort A < B.\n",
		"language e.op a:A\"(\"B\"a b\"->C strict(2,1)left prec 07.":             "language e.\nop a : A \"(\" B \"a b\" -> C prec 7 left strict(2, 1).\n",
		"language e.op a:->A right.fun f:->A.fun g:A B->C.op b:A->A.":            "language e.\nop a : -> A right.\nop b : A -> A.\nfun f : -> A.\nfun g : A B -> C.\n",
		"language e.let f ( ' x,X : A ,-1)=1.":                                   "language e.\nlet f('x, X:A, -1) = 1.\n",
		"language e.let f()={1->[_|L],$->2|M}if true,[|L],{|M},[ ],{ },f ( ).":   "language e.\nlet f() = {1 -> [_ | L], $ -> 2 | M} if true, [| L], {| M}, [], {}, f().\n",
		"language e.cell c:A=\"=>\".":                                            "language e.\ncell c : A = \"=>\".\n",
		"language e.many t (c:A=1,d:B=-2).":                                      "language e.\nmany t(c : A = 1, d : B = -2).\n",
		"language e.watch w.start S.":                                            "language e.\nstart S.\nwatch w.\n",
		"language e.rule r:c@a:1=>-1;c:2 if f(1).":                               "language e.\nrule r : c@a : 1 => -1; c : 2 if f(1).\n",
		"language e.rule r:drop @ b;new (1,[]);c @ a:1;new(2);drop@c;c:[-1]=>1.": "language e.\nrule r : c@a : 1; c : [-1] => 1; new(1, []); new(2); drop@b; drop@c.\n",
	} {
		if got := text(t, parsed(t, s)); got != want {
			t.Errorf("%s\ninstead of\n%s", got, want)
		}
	}
}

// P6.3: the order of items
func TestOrderOfText(t *testing.T) {
	lines := strings.SplitAfter(strings.TrimSuffix(full, "\n"), "\n")
	backwards := lines[0]
	for i := len(lines) - 1; i > 0; i-- {
		backwards += lines[i]
	}
	want := []string{"language full", "sort A", "subsort Int", "value Int", "op both", "op minus", "op loop", "op pair", "op nil", "fun g", "fun f", "let g", "let f", "cell e", "cell k", "many t", "start B", "watch k", "rule s", "rule r"}
	got := strings.Split(text(t, parsed(t, backwards)), "\n")
	for i, s := range want {
		if !strings.HasPrefix(got[i], s) {
			t.Errorf("%s instead of %s", got[i], s)
		}
	}
	if len(got) != len(want)+1 {
		t.Error(got)
	}
}

// P6.3: definitions that are not well formed, and those whose strings are too long
func TestTextErrors(t *testing.T) {
	for _, d := range illFormed(t) {
		if s, e := def.Text(d); s != "" || e != api.ErrArg {
			t.Error(d, s, e)
		}
	}
	wantLength := func(d api.Def, length int) {
		t.Helper()
		s, e := def.Text(d)
		if length <= api.MaxText && (len(s) != length || e != api.OK) || length > api.MaxText && (s != "" || e != api.ErrLimit) {
			t.Errorf("%d bytes, %v instead of %d", len(s), e, length)
		}
	}
	for _, length := range []int{api.MaxText - 1, api.MaxText, api.MaxText + 1, api.MaxText + 2, 3 * api.MaxText} {
		d := parsed(t, "language e. value A.")
		before := len(text(t, d))
		for range (length - before) / 10 {
			d.Sig.Values = append(d.Sig.Values, letters(8)) // with a comma and a blank 10 bytes
		}
		d.Name += letters((length - before) % 10)
		wantLength(d, length)
		d.Name, d.Watch = "e", "" // less, but still as long as it was but for the name
		wantLength(d, length-(length-before)%10)
	}
	// A term that is too long by itself, and one that is not, in a definition that is
	big := strings.Repeat(`"`+letters(200)+`", `, 96) + `"` + letters(200) + `"`
	d := parsed(t, "language e. let ["+big+"] = 1.")
	wantLength(d, len("language e.\nlet [] = 1.\n")+len(big))
	d.Eqs[0].Right = d.Eqs[0].Left
	wantLength(d, 2*api.MaxText)
	for range 2 {
		d.Eqs[0].Left.Kids = append(d.Eqs[0].Left.Kids, str(letters(200)))
	}
	d.Eqs[0].Right = whole(1)
	wantLength(d, api.MaxText+1)
	d = parsed(t, "language e. rule r : c : 1.")
	d.Rules[0].If = []api.Term{d.Rules[0].Parts[0].Left, list(nested(40, list(strs(110)...)))}
	wantLength(d, 2*api.MaxText)
}

// strs returns long strings.
func strs(n int) []api.Term {
	var all []api.Term
	for range n {
		all = append(all, str(letters(200)))
	}
	return all
}

// P6.3: lines and columns do not matter.
func TestTextPlaces(t *testing.T) {
	d := parsed(t, full)
	d.Eqs[0].Line, d.Once[0].Col, d.Many[0].Line, d.Rules[0].Col, d.Rules[0].Parts[0].Line = -1, 0, 1<<40, -7, 0
	if got := text(t, d); got != full {
		t.Error(got)
	}
}

// Rule 3: no argument is changed.
func TestTextArgument(t *testing.T) {
	d := parsed(t, full)
	text(t, d)
	def.Valid(d)
	def.Same(d, d)
	if !reflect.DeepEqual(d, parsed(t, full)) {
		t.Error("the argument is changed:", d)
	}
}
