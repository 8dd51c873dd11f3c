package lex_test

import (
	"math/rand"
	"regexp"
	"slices"
	"strconv"
	"strings"
	"testing"

	"voussoir/api"
	"voussoir/lex"
)

// drawSigns returns a valid list of signs that is drawn. Many begin with others, and some stand there twice.
func drawSigns(r *rand.Rand) []string {
	var all []string
	for range r.Intn(12) {
		s := ""
		for range 1 + r.Intn(3) {
			s += string("+<=->/("[r.Intn(7)])
		}
		all = append(all, s)
	}
	return all
}

// drawTokens returns tokens that are drawn, with some of the signs.
func drawTokens(r *rand.Rand, signs []string) []api.Token {
	var all []api.Token
	for range r.Intn(12) {
		next := []api.Token{word("a"), word("B_1"), word("true"), whole(0), whole(r.Intn(api.MaxInt)), str(""), str("// a'_"), str("a  +")}
		for range 4 {
			if len(signs) > 0 {
				next = append(next, sign(signs[r.Intn(len(signs))]))
			}
		}
		all = append(all, next[r.Intn(len(next))])
	}
	return all
}

// drawString returns a string that is drawn of pieces: it may have tokens, or a fault.
func drawString(r *rand.Rand) string {
	pieces := []string{"a", "bc_", "1", "20", "2147483647", "2147483648", "_", "\"a\"", "\"", "\" /", "'", "+", "++", "<", "<=", "=", "-", ">", "/", "//", "(", " ", "\n", "\t", "\r", "é", letters(40)}
	s := ""
	for range r.Intn(9) {
		s += pieces[r.Intn(len(pieces))]
	}
	return s
}

// matcher cuts strings in another way: a token is the longest of what these expressions match.
type matcher struct{ skip, name, integer, text, sign *regexp.Regexp }

func newMatcher(signs []string) matcher {
	quoted := []string{"[^\\x00-\\xff]"} // what no string has that is drawn: there may be no signs
	for _, s := range signs {
		quoted = append(quoted, regexp.QuoteMeta(s))
	}
	sign := regexp.MustCompile("^(" + strings.Join(quoted, "|") + ")")
	sign.Longest()
	return matcher{
		skip:    regexp.MustCompile("^([ \\t\\r\\n]|//[^\\n]*)*"),
		name:    regexp.MustCompile("^[A-Za-z][A-Za-z0-9_]*"),
		integer: regexp.MustCompile("^[0-9]+[A-Za-z_]?"),
		text:    regexp.MustCompile("^\"[ !#-\\[\\]-~]{0,200}\""),
		sign:    sign,
	}
}

// token returns the token with which a string begins, and how long it is: 0, if there is none.
func (m matcher) token(s string) (api.Token, int) {
	if x := m.name.FindString(s); x != "" && len(x) <= api.MaxName {
		return word(x), len(x)
	}
	if x := m.integer.FindString(s); x != "" {
		if n, err := strconv.ParseInt(x, 10, 64); err == nil && n <= api.MaxInt {
			return whole(int(n)), len(x)
		}
	}
	if x := m.text.FindString(s); x != "" {
		return str(x[1 : len(x)-1]), len(x)
	}
	x := m.sign.FindString(s)
	return sign(x), len(x)
}

func (m matcher) cut(s string) ([]api.Token, api.Fault) {
	var all []api.Token
	for i := 0; ; {
		i += len(m.skip.FindString(s[i:]))
		if i == len(s) {
			return all, api.Fault{}
		}
		line, col := 1+strings.Count(s[:i], "\n"), i-strings.LastIndex(s[:i], "\n")
		t, n := m.token(s[i:])
		if n == 0 {
			return nil, api.Fault{Code: api.ErrLex, Name: s[i : i+1], Line: line, Col: col}
		}
		all = append(all, at(line, col, t))
		i += n
	}
}

// P5.1, P5.2: Lex and Definition cut as the expressions do.
func TestAsExpressionsDo(t *testing.T) {
	r := rand.New(rand.NewSource(1))
	definition := newMatcher(signsOf(definitionSigns))
	for range 300 {
		signs := drawSigns(r)
		m := newMatcher(signs)
		for range 40 {
			s := drawString(r)
			want, wanted := m.cut(s)
			if got, f := lex.Lex(s, signs); !slices.Equal(got, want) || f != wanted {
				t.Fatalf("%q %q: %v, %v instead of %v, %v", s, signs, got, f, want, wanted)
			}
			want, wanted = definition.cut(s)
			if got, f := lex.Definition(s); !slices.Equal(got, want) || f != wanted {
				t.Fatalf("%q: %v, %v instead of %v, %v", s, got, f, want, wanted)
			}
		}
	}
}

// Rule 1: any bytes, and any signs
func TestAnyBytes(t *testing.T) {
	r := rand.New(rand.NewSource(7))
	draw := func(n int) string {
		b := make([]byte, r.Intn(n))
		for i := range b {
			b[i] = byte(r.Intn(256))
		}
		return string(b)
	}
	for range 3000 {
		s := draw(30)
		signs := []string{draw(3), draw(30)}
		for _, cut := range []func() ([]api.Token, api.Fault){
			func() ([]api.Token, api.Fault) { return lex.Lex(s, signs) },
			func() ([]api.Token, api.Fault) { return lex.Lex(s, nil) },
			func() ([]api.Token, api.Fault) { return lex.Definition(s) },
		} {
			if l, f := cut(); f.Code != api.OK && len(l) != 0 || f.Code == api.OK && f != (api.Fault{}) {
				t.Fatalf("%q %q: %v, %v", s, signs, l, f)
			}
		}
	}
}

// P5.5
func TestRoundTrip(t *testing.T) {
	r := rand.New(rand.NewSource(2))
	for range 2000 {
		signs := slices.DeleteFunc(drawSigns(r), func(s string) bool { return strings.HasPrefix(s, "//") })
		l := drawTokens(r, signs)
		s := text(t, l)
		back, f := lex.Lex(s, signs)
		if !lex.Same(back, l) || f != (api.Fault{}) {
			t.Fatalf("%q: %v, %v", s, back, f)
		}
		if again := text(t, back); again != s {
			t.Fatalf("%q instead of %q", again, s)
		}
	}
}

// P5.5, of the signs of definitions
func TestRoundTripOfDefinitions(t *testing.T) {
	r := rand.New(rand.NewSource(3))
	for range 1000 {
		l := drawTokens(r, signsOf(definitionSigns))
		if back := cutDefinition(t, text(t, l)); !lex.Same(back, l) {
			t.Fatal(l, back)
		}
	}
}

// drawBlank returns blanks and comments that are drawn: at least one blank or comment, which ends.
func drawBlank(r *rand.Rand) string {
	all := []string{" ", "  ", "\t", "\n", "\r\n", "\n\n ", " // a \"\n", " //\n", "\n// é _ // +\n\t"}
	s := ""
	for range 1 + r.Intn(3) {
		s += all[r.Intn(len(all))]
	}
	return s
}

// P5.6: what stands between tokens changes their places alone, and to where they stand.
func TestBlanks(t *testing.T) {
	r := rand.New(rand.NewSource(4))
	for range 1000 {
		signs := slices.DeleteFunc(drawSigns(r), func(s string) bool { return strings.HasPrefix(s, "//") })
		l := drawTokens(r, signs)
		s := drawBlank(r)
		var want []api.Token
		for _, x := range l {
			want = append(want, at(1+strings.Count(s, "\n"), len(s)-strings.LastIndex(s, "\n"), x))
			s += text(t, []api.Token{x}) + drawBlank(r)
		}
		for _, end := range []string{"", "//", " // the end"} {
			got, f := lex.Lex(s+end, signs)
			if !slices.Equal(got, want) || f != (api.Fault{}) {
				t.Fatalf("%q: %v instead of %v, %v", s, got, want, f)
			}
		}
	}
}

// P5.6: of definitions comments may follow tokens at once.
func TestBlanksOfDefinitions(t *testing.T) {
	const plain = "rule add:k:[plus(X:Int,Y:Int)|K]=>[add(X:Int,-1)|\"K\"];_'a."
	want := cutDefinition(t, plain)
	for _, blank := range []string{" ", "\n", "//\n", "// \"x\n", "\t// a // b\r\n", "\r"} {
		s := blank
		for _, x := range want {
			s += text(t, []api.Token{x}) + blank
		}
		if got := cutDefinition(t, s); !lex.Same(got, want) || slices.Equal(got, want) {
			t.Errorf("%q: %v", s, got)
		}
	}
}

// P5.7
func TestLongest(t *testing.T) {
	r := rand.New(rand.NewSource(5))
	for range 3000 {
		signs, s := drawSigns(r), drawString(r)
		l, _ := lex.Lex(s, signs)
		lines := strings.Split(s, "\n")
		for _, x := range l {
			rest := lines[x.Line-1][x.Col-1:]
			if x.Kind == api.TokSign && slices.ContainsFunc(signs, func(s string) bool { return len(s) > len(x.Text) && strings.HasPrefix(rest, s) }) {
				t.Fatalf("%q: %v is not the longest of %q", s, x, signs)
			}
		}
	}
}

// P5.8
func TestOrderOfSigns(t *testing.T) {
	r := rand.New(rand.NewSource(6))
	for range 1000 {
		signs, s := drawSigns(r), drawString(r)
		want, wanted := lex.Lex(s, signs)
		other := slices.Concat(signs, signs[:r.Intn(len(signs)+1)])
		r.Shuffle(len(other), func(i, j int) { other[i], other[j] = other[j], other[i] })
		got, f := lex.Lex(s, other)
		if !slices.Equal(got, want) || f != wanted {
			t.Fatalf("%q %q %q: %v, %v instead of %v, %v", s, signs, other, got, f, want, wanted)
		}
	}
}
