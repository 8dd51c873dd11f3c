package lex_test

import (
	"slices"
	"strings"
	"testing"

	"voussoir/api"
	"voussoir/lex"
)

// P5.3
func TestText(t *testing.T) {
	longest := strings.Repeat("!", 20)
	for _, x := range []struct {
		tokens []api.Token
		want   string
	}{
		{nil, ""},
		{[]api.Token{word("a")}, "a"},
		{[]api.Token{word("a"), word("B_1")}, "a B_1"},
		{[]api.Token{whole(0), whole(12), whole(api.MaxInt)}, "0 12 2147483647"},
		{[]api.Token{str(""), str(" a "), str("//'+"), str(letters(200))}, `"" " a " "//'+" "` + letters(200) + `"`},
		{[]api.Token{sign("+"), sign("++"), sign("("), sign(longest), sign("//")}, "+ ++ ( " + longest + " //"},
		{[]api.Token{sign("'"), sign("_"), word("a"), sign("-"), whole(1)}, "' _ a - 1"},
		{[]api.Token{at(1, 1, word("a")), at(-5, 0, sign("+")), at(1<<40, -1, whole(1))}, "a + 1"},
	} {
		before := slices.Clone(x.tokens)
		if got := text(t, x.tokens); got != x.want || !slices.Equal(x.tokens, before) {
			t.Errorf("%q instead of %q", got, x.want)
		}
	}
}

// notTokens returns what is no token.
func notTokens() []api.Token {
	all := []api.Token{{}, {Text: "a"}, {Kind: -1, Text: "a"}, {Kind: 5, Text: "a"}, {Kind: api.TokName, Text: "a", N: 1}, {Kind: api.TokSign, Text: "+", N: -1}, {Kind: api.TokText, Text: "a", N: 1}, {Kind: api.TokInt, N: 1, Text: "1"}, whole(-1), whole(api.MaxInt + 1)}
	for _, s := range []string{"", "1", "_", "_a", "a b", "a-b", "é", letters(api.MaxName + 1)} {
		all = append(all, word(s))
	}
	for _, s := range []string{`"`, `\`, "a\n", "\t", "é", "\x7f", "\x80", letters(201)} {
		all = append(all, str(s))
	}
	for _, s := range []string{"", "a", "1", "+a", "+ ", " ", "''", "__", "+_", "'+", `"`, `\`, "é", "\x7f", strings.Repeat("!", 21)} {
		all = append(all, sign(s))
	}
	return all
}

// P5.3: each has to be a token, whatever the others are.
func TestTextOfNoToken(t *testing.T) {
	long := slices.Repeat([]api.Token{word("a")}, api.MaxText)
	for _, bad := range notTokens() {
		for _, l := range [][]api.Token{{bad}, {word("a"), bad}, {bad, whole(1)}, append(slices.Clip(long), bad)} {
			if s, e := lex.Text(l); s != "" || e != api.ErrArg {
				t.Errorf("%v: %q, %d", bad, s, e)
			}
		}
	}
}

// P5.3: as many bytes as there may be, and one more
func TestTextLimit(t *testing.T) {
	l := append(slices.Repeat([]api.Token{word("a")}, api.MaxText/2-1), word("ab"))
	if got := text(t, l); len(got) != api.MaxText || !strings.HasSuffix(got, " a ab") {
		t.Error(len(got))
	}
	for _, last := range []api.Token{word("abc"), whole(100), str("a"), sign("+++")} {
		l[len(l)-1] = last
		if got, e := lex.Text(l); got != "" || e != api.ErrLimit {
			t.Errorf("%v: %d bytes, %d", last, len(got), e)
		}
	}
	if got, e := lex.Text(slices.Repeat([]api.Token{str(letters(200))}, 1<<16)); got != "" || e != api.ErrLimit {
		t.Error(len(got), e)
	}
}

// P5.4: Line and Col do not matter, all else does.
func TestSame(t *testing.T) {
	all := [][]api.Token{
		nil, {word("a")}, {word("b")}, {str("a")}, {sign("+")}, {whole(0)}, {whole(1)}, {{Kind: api.TokName, Text: "a", N: 1}}, {{Text: "a"}}, {{}},
		{word("a"), word("b")}, {word("b"), word("a")}, {word("a"), word("a")}, {word("a"), word("b"), sign("+")},
	}
	for i, a := range all {
		for j, b := range all {
			moved := slices.Clone(b)
			for k := range moved {
				moved[k] = at(7, -k, moved[k])
			}
			if lex.Same(a, b) != (i == j) || lex.Same(a, moved) != (i == j) || lex.Same(moved, a) != (i == j) {
				t.Error(a, b)
			}
		}
	}
	if !lex.Same(nil, []api.Token{}) || !lex.Same([]api.Token{}, nil) {
		t.Error("none and none")
	}
}
