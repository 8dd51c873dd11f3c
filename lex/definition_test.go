package lex_test

import (
	"slices"
	"strings"
	"testing"

	"voussoir/api"
	"voussoir/lex"
)

// P5.2: the signs, each one, and all at once
func TestDefinitionSigns(t *testing.T) {
	all := signsOf(definitionSigns)
	var together []api.Token
	for _, s := range all {
		wantTokens(t, s, cutDefinition(t, s), at(1, 1, sign(s)))
		together = append(together, sign(s))
	}
	if got := cutDefinition(t, definitionSigns); !lex.Same(got, together) {
		t.Error(got)
	}
	for c := byte(33); c <= 126; c++ {
		s := string([]byte{c})
		if strings.ContainsAny(s, "abcdefghijklmnopqrstuvwxyzABCDEFGHIJKLMNOPQRSTUVWXYZ0123456789") || slices.Contains(all, s) {
			continue
		}
		l, f := lex.Definition(s)
		wantFault(t, s, l, f, api.Fault{Code: api.ErrLex, Name: s, Line: 1, Col: 1})
	}
}

// P5.2: signs beside each other, and beside names and integers
func TestDefinition(t *testing.T) {
	for s, want := range map[string]string{
		"":                  "",
		"=>->=-><-":         "=> -> = -> < -",
		"==>":               "= =>",
		"--1":               "- - 1",
		"_a":                "_ a",
		"__":                "_ _",
		"_1":                "_ 1",
		"a_b_":              "a_b_",
		"'a''_'":            "' a ' ' _ '",
		"a'1":               "a ' 1",
		"k@N:[X:Int|K]=>_.": "k @ N : [ X : Int | K ] => _ .",
		"{'a->-5,$}(;)":     "{ ' a -> - 5 , $ } ( ; )",
		"\"_'\"'_'// '":     "\"_'\" ' _ '",
	} {
		if got := text(t, cutDefinition(t, s)); got != want {
			t.Errorf("%q: %q instead of %q", s, got, want)
		}
	}
	const s = "rule _a :\n 'b => x:Int -5 // _\n\t$."
	wantTokens(t, s, cutDefinition(t, s),
		at(1, 1, word("rule")), at(1, 6, sign("_")), at(1, 7, word("a")), at(1, 9, sign(":")),
		at(2, 2, sign("'")), at(2, 3, word("b")), at(2, 5, sign("=>")), at(2, 8, word("x")), at(2, 9, sign(":")), at(2, 10, word("Int")), at(2, 14, sign("-")), at(2, 15, whole(5)),
		at(3, 2, sign("$")), at(3, 3, sign(".")))
}

// P5.2: faults
func TestDefinitionFaults(t *testing.T) {
	for s, want := range map[string]api.Fault{
		"a + b":              {Code: api.ErrLex, Name: "+", Line: 1, Col: 3},
		"a\n > b":            {Code: api.ErrLex, Name: ">", Line: 2, Col: 2},
		"->>":                {Code: api.ErrLex, Name: ">", Line: 1, Col: 3},
		"a/b":                {Code: api.ErrLex, Name: "/", Line: 1, Col: 2},
		"_ 1_":               {Code: api.ErrLex, Name: "1", Line: 1, Col: 3},
		"_1a":                {Code: api.ErrLex, Name: "1", Line: 1, Col: 2},
		"- 2147483648":       {Code: api.ErrLex, Name: "2", Line: 1, Col: 3},
		"'\"a":               {Code: api.ErrLex, Name: "\"", Line: 1, Col: 2},
		"'\\a":               {Code: api.ErrLex, Name: "\\", Line: 1, Col: 2},
		"_" + letters(41):    {Code: api.ErrLex, Name: "a", Line: 1, Col: 2},
		letters(20001):       {Code: api.ErrLimit},
		letters(10000) + "!": {Code: api.ErrLex, Name: "a", Line: 1, Col: 1},
	} {
		l, f := lex.Definition(s)
		wantFault(t, s, l, f, want)
	}
	if l := cutDefinition(t, strings.Repeat("_", api.MaxText)); len(l) != api.MaxText {
		t.Error(len(l))
	}
}
