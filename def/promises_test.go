package def_test

import (
	"math/rand"
	"slices"
	"strconv"
	"strings"
	"testing"

	"voussoir/api"
	"voussoir/def"
	"voussoir/lex"
	"voussoir/term"
)

// P6.6
func TestRoundTrip(t *testing.T) {
	drawn(1, 2000, func(r drawer, d api.Def) {
		s := text(t, d)
		again := parsed(t, s)
		if !def.Valid(d) || !def.Same(again, d) || !def.Valid(again) {
			t.Fatalf("%s\n%+v\ninstead of\n%+v", s, again, d)
		}
		if twice := text(t, again); twice != s {
			t.Fatalf("%s\ninstead of\n%s", twice, s)
		}
	})
}

// written returns a token as it stands in a string.
func written(x api.Token) string {
	switch x.Kind {
	case api.TokInt:
		return strconv.Itoa(x.N)
	case api.TokText:
		return `"` + x.Text + `"`
	}
	return x.Text
}

// tokensOf returns the tokens of a string that has some.
func tokensOf(t testing.TB, s string) []api.Token {
	t.Helper()
	tokens, f := lex.Definition(s)
	if f.Code != api.OK {
		t.Fatal(s, f)
	}
	return tokens
}

// P6.3: blanks stand where the chapter says.
func TestBlanksBetweenTokens(t *testing.T) {
	drawn(2, 500, func(r drawer, d api.Def) {
		for _, line := range strings.Split(strings.TrimSuffix(text(t, d), "\n"), "\n") {
			if got := spaced(tokensOf(t, line), line); got != line {
				t.Fatalf("%s\ninstead of\n%s", line, got)
			}
		}
	})
}

// spaced returns the tokens of an item with blanks between them. On the sides of a : they are as in the item: that of a variable has none.
func spaced(tokens []api.Token, item string) string {
	s := ""
	for i, x := range tokens {
		if i > 0 && wantsBlank(tokens[i-1], x, item) {
			s += " "
		}
		s += written(x)
	}
	return s
}

func wantsBlank(before, x api.Token, item string) bool {
	one := func(x api.Token, signs string) bool {
		return x.Kind == api.TokSign && slices.Contains(strings.Fields(signs), x.Text)
	}
	switch {
	case one(before, ":") || one(x, ":"):
		return item[x.Col-2] == ' '
	case one(x, ". , ; ) ] } @") || one(before, "( [ { @ ' -"):
		return false
	}
	return !one(x, "(") || before.Kind != api.TokName
}

// P6.7
func TestTermRoundTrip(t *testing.T) {
	r := drawer{rand.New(rand.NewSource(3))}
	for range 5000 {
		x := r.term(5)
		s, e := term.Text(x)
		if e != api.OK {
			t.Fatal(x, e)
		}
		if back, f := def.Term(s); !term.Same(back, x) || f != (api.Fault{}) {
			t.Fatalf("%s: %v, %v", s, back, f)
		}
	}
}

// drawBlank returns blanks and comments that are drawn, perhaps none.
func drawBlank(r *rand.Rand) string {
	return []string{"", "", " ", "  ", "\t", "\n", "\r\n", " // a \"\n", "//\n", "\n// é _ // +\n\t"}[r.Intn(10)]
}

// joined returns tokens, each with its place, and the string in which they stand there. There is something between two where they would not be two without it, but nothing between the - of an integer and its digits, if that is wanted.
func joined(r *rand.Rand, tokens []api.Token, tight bool) ([]api.Token, string) {
	s := drawBlank(r)
	var placed []api.Token
	for i, x := range tokens {
		if i > 0 {
			blank := drawBlank(r)
			if one := written(tokens[i-1]) + blank + written(x); blank == "" && !isTwo(one, tokens[i-1], x) {
				blank = " "
			}
			if tight && written(tokens[i-1]) == "-" && x.Kind == api.TokInt {
				blank = ""
			}
			s += blank
		}
		x.Line, x.Col = 1+strings.Count(s, "\n"), len(s)-strings.LastIndex(s, "\n")
		placed = append(placed, x)
		s += written(x)
	}
	return placed, s + drawBlank(r)
}

// isTwo reports whether a string has just two tokens.
func isTwo(s string, a, b api.Token) bool {
	tokens, _ := lex.Definition(s)
	return lex.Same(tokens, []api.Token{a, b})
}

// places returns the lines and columns that a definition has, in the order in which their tokens come.
func places(d api.Def) [][2]int {
	var all [][2]int
	add := func(line, col int) { all = append(all, [2]int{line, col}) }
	for _, eq := range d.Eqs {
		add(eq.Line, eq.Col)
	}
	for _, cell := range slices.Concat(d.Once, d.Many) {
		add(cell.Line, cell.Col)
	}
	for _, rule := range d.Rules {
		add(rule.Line, rule.Col)
		for _, part := range rule.Parts {
			add(part.Line, part.Col)
		}
	}
	return all
}

// P6.8: blanks and comments change lines and columns alone, and these to where the tokens stand.
func TestBlanks(t *testing.T) {
	drawn(4, 1000, func(r drawer, d api.Def) {
		s := text(t, d)
		tokens := tokensOf(t, s)
		moved, wide := joined(r.Rand, tokens, true)
		if len(wide) > api.MaxText {
			return
		}
		plain, other := parsed(t, s), parsed(t, wide)
		if !def.Same(plain, other) {
			t.Fatalf("%s\n%s", s, wide)
		}
		to := map[[2]int][2]int{}
		for i, x := range tokens {
			to[[2]int{x.Line, x.Col}] = [2]int{moved[i].Line, moved[i].Col}
		}
		var want [][2]int
		for _, place := range places(plain) {
			want = append(want, to[place])
		}
		if got := places(other); !slices.Equal(got, want) {
			t.Fatalf("%s\n%v instead of %v", wide, got, want)
		}
	})
}

// P6.9
func TestRenamedTwice(t *testing.T) {
	drawn(5, 300, func(r drawer, d api.Def) {
		for _, a := range []string{"a", "k", "X", "Exp", "If", "free"} {
			for _, b := range []string{"b", "Exp", "list_1", "other"} {
				once := renamed(t, d, a, b)
				back := renamed(t, once, b, a)
				if !def.Valid(once) || !def.Same(back, d) || !slices.Equal(places(back), places(d)) || !slices.Equal(places(once), places(d)) {
					t.Fatalf("%s %s: %+v\ninstead of\n%+v", a, b, back, d)
				}
			}
		}
	})
}

// P6.5: what is renamed is what the string says with names exchanged that are no identifiers.
func TestRenameByTokens(t *testing.T) {
	drawn(6, 1000, func(r drawer, d api.Def) {
		tokens := tokensOf(t, text(t, d))
		exchanged := map[string]string{"a": "Exp", "Exp": "a"}
		for i, x := range tokens {
			if to, there := exchanged[x.Text]; there && x.Kind == api.TokName && tokens[i-1].Text != "'" {
				tokens[i].Text = to
			}
		}
		_, s := joined(r.Rand, tokens, true)
		if len(s) > api.MaxText {
			return
		}
		if want := parsed(t, s); !def.Same(renamed(t, d, "a", "Exp"), want) || !def.Same(renamed(t, d, "Exp", "a"), want) {
			t.Fatalf("%+v\n%+v", d, want)
		}
	})
}

// mutated returns tokens, some of which are changed, left out, exchanged or doubled.
func mutated(r *rand.Rand, tokens []api.Token) []api.Token {
	pool := poolOf(words + " a A 0 1 21 \"x\" => -> : ; , . @ | ( ) [ ] { } < = ' _ - $")
	tokens = slices.Clone(tokens)
	for range 1 + r.Intn(2) {
		if len(tokens) == 0 {
			break
		}
		i, j := r.Intn(len(tokens)), r.Intn(len(tokens))
		switch r.Intn(5) {
		case 0:
			tokens[i] = pool[r.Intn(len(pool))]
		case 1:
			tokens = slices.Insert(tokens, i, pool[r.Intn(len(pool))])
		case 2:
			tokens = slices.Delete(tokens, i, i+1)
		case 3:
			tokens[i], tokens[j] = tokens[j], tokens[i]
		case 4:
			tokens = slices.Insert(tokens, i, tokens[j])
		}
	}
	return tokens[:len(tokens)-r.Intn(1+len(tokens))/4]
}

func poolOf(s string) []api.Token {
	tokens, _ := lex.Definition(s)
	return tokens
}

// P6.10: what stands behind a fault, and can be cut into tokens, does not matter.
func TestStop(t *testing.T) {
	faults := map[api.Errno]int{}
	wantStop := func(s string) {
		t.Helper()
		_, f := def.Parse(s)
		faults[f.Code]++
		if f.Code == api.OK || f.Code == api.ErrEnd || f.Code == api.ErrLimit {
			return
		}
		for _, more := range []string{"", "x", ".", "sort A.", "language e.", "1 2 \"a\"", "]", "}, 1 -> 2)", full} {
			wantFault(t, s+"\n"+more, f)
		}
		if f.Code == api.ErrLex {
			for _, more := range []string{"!", "\"", "1a"} {
				wantFault(t, s+"\n"+more, f)
			}
		}
	}
	drawn(7, 600, func(r drawer, d api.Def) {
		_, s := joined(r.Rand, mutated(r.Rand, tokensOf(t, text(t, d))), false)
		if len(s) < api.MaxText/2 {
			wantStop(s)
			i := r.Intn(len(s) + 1)
			wantStop(s[:i] + []string{"!", "\"", "1a", "?", ">"}[r.Intn(5)] + s[i:])
		}
	})
	for _, s := range []string{
		"language e. start A. start", "language e. op a : -> A left left", "language e. op a : -> A prec 0", "language e. let f() = " + strings.Repeat("[", 61), "language e. \"", "language e. // x\nif // y",
		"language e. op a : -> A prec 21", "language e. watch a. watch", "language e. op a : -> A strict(9", "language e. many t(c : A = 1). many", "language e. 1a",
	} {
		wantStop(s)
	}
	for _, code := range []api.Errno{api.ErrLex, api.ErrSyntax, api.ErrEnd, api.ErrTwice, api.ErrDeep, api.ErrRange} {
		if faults[code] == 0 {
			t.Error("no such fault:", code)
		}
	}
}

// Rule 1: any bytes
func TestAnyBytes(t *testing.T) {
	r := rand.New(rand.NewSource(8))
	for range 5000 {
		b := make([]byte, r.Intn(40))
		for i := range b {
			b[i] = byte(r.Intn(256))
		}
		s := full[:r.Intn(len(full))] + string(b)
		if d, f := def.Parse(s); f.Code != api.OK && !def.Same(d, api.Def{}) || f.Code == api.OK && (f != (api.Fault{}) || !def.Valid(d)) {
			t.Fatalf("%q: %+v, %v", s, d, f)
		}
		if x, f := def.Term(string(b)); f.Code != api.OK && !term.Same(x, api.Term{}) || f.Code == api.OK && !term.Valid(x) {
			t.Fatalf("%q: %v, %v", b, x, f)
		}
	}
}
