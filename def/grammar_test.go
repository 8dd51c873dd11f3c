package def_test

import (
	"math/rand"
	"strings"
	"testing"

	"voussoir/api"
	"voussoir/def"
	"voussoir/lex"
	"voussoir/term"
)

// grammar is DOC's, but for three words: small is a name that an identifier can have, and an integer of a term is a number, perhaps after a - which it follows at once.
const grammar = `
    definition = "language" name "." { item }
    item    = "sort" name { "," name } "."
            | "subsort" name "<" name "."
            | "value" name { "," name } "."
            | "op" name ":" { name | string } "->" name { attr } "."
            | "fun" name ":" { name } "->" name "."
            | "let" term "=" term [ "if" term { "," term } ] "."
            | "start" name "."
            | "cell" name ":" name "=" term "."
            | "many" name "(" name ":" name "=" term { "," name ":" name "=" term } ")" "."
            | "watch" name "."
            | "rule" name ":" part { ";" part } [ "if" term { "," term } ] "."
    attr    = "prec" integer | "left" | "right" | "strict" "(" integer { "," integer } ")"
    part    = name [ "@" name ] ":" term [ "=>" term ]
            | "new" "(" term { "," term } ")"
            | "drop" "@" name
    term    = integer | "-" next | "true" | "false" | string | "'" small
            | name "(" [ term { "," term } ] ")"
            | name ":" name | "_"
            | "[" [ term { "," term } ] [ "|" name ] "]"
            | "{" [ term "->" term { "," term "->" term } ] [ "|" name ] "}"
            | "$"
`

// form is a part of the grammar: a word, or several alternatives, of which each is a sequence; it may be left out, or repeated.
type form struct {
	word           string
	some           [][]form
	optional, loop bool
}

// rules reads the grammar: each of its lines that has a name and = begins a rule.
func rules() map[string]form {
	all := map[string]form{}
	words := strings.Fields(grammar)
	for len(words) > 0 {
		name := words[0]
		end := len(words)
		for i := 2; i+1 < len(words); i++ {
			if words[i+1] == "=" {
				end = i
				break
			}
		}
		all[name], _ = alternatives(words[2:end])
		words = words[end:]
	}
	return all
}

// alternatives returns what some words say, up to a bracket that closes, and the words after that.
func alternatives(words []string) (form, []string) {
	all := form{some: [][]form{nil}}
	for len(words) > 0 {
		word := words[0]
		words = words[1:]
		last := &all.some[len(all.some)-1]
		switch word {
		case "|":
			all.some = append(all.some, nil)
		case "[", "{":
			var part form
			part, words = alternatives(words)
			part.optional, part.loop = true, word == "{"
			*last = append(*last, part)
		case "]", "}":
			return all, words
		default:
			*last = append(*last, form{word: word})
		}
	}
	return all, nil
}

// ahead is what is still to come of a definition: a form, and what comes after it.
type ahead struct {
	form
	then *ahead
}

// reader goes through the tokens of a definition in all ways at once.
type reader struct {
	rules    map[string]form
	reserved map[string]bool
}

func newReader() reader {
	r := reader{rules(), map[string]bool{}}
	for _, word := range strings.Fields(grammar) {
		if quoted := strings.Trim(word, `"`); quoted != word && quoted[0] >= 'a' && quoted[0] <= 'z' {
			r.reserved[quoted] = true
		}
	}
	return r
}

// fits reports whether a token, after another one, is one that a word of the grammar means.
func (r reader) fits(word string, x, before api.Token) bool {
	isName := x.Kind == api.TokName && !r.reserved[x.Text]
	switch word {
	case "name":
		return isName
	case "small":
		return isName && x.Text[0] >= 'a'
	case "string":
		return x.Kind == api.TokText
	case "integer":
		return x.Kind == api.TokInt
	case "next":
		return x.Kind == api.TokInt && x.Line == before.Line && x.Col == before.Col+1
	}
	quoted := strings.Trim(word, `"`)
	return x.Text == quoted && (x.Kind == api.TokSign || x.Kind == api.TokName && r.reserved[x.Text])
}

// heads calls see with each way to go on that begins with a word; nil stands for the end.
func (r reader) heads(a *ahead, see func(a *ahead)) {
	switch {
	case a == nil:
		see(nil)
		return
	case a.word != "":
		if rule, ok := r.rules[a.word]; ok {
			r.heads(&ahead{rule, a.then}, see)
		} else {
			see(a)
		}
		return
	}
	if a.optional {
		r.heads(a.then, see)
	}
	for _, sequence := range a.some {
		then := a.then
		if a.loop {
			then = a
		}
		for i := len(sequence) - 1; i >= 0; i-- {
			then = &ahead{sequence[i], then}
		}
		r.heads(then, see)
	}
}

// stop returns how many tokens can be the beginning of what a rule says, and whether all of them are the whole of it.
func (r reader) stop(rule string, tokens []api.Token) (int, bool) {
	ways := []*ahead{{form: form{word: rule}}}
	for i, x := range tokens {
		var before api.Token
		if i > 0 {
			before = tokens[i-1]
		}
		var next []*ahead
		for _, way := range ways {
			r.heads(way, func(a *ahead) {
				if a != nil && r.fits(a.word, x, before) {
					next = append(next, a.then)
				}
			})
		}
		if len(next) == 0 {
			return i, false
		}
		ways = next
	}
	whole := false
	for _, way := range ways {
		r.heads(way, func(a *ahead) { whole = whole || a == nil })
	}
	return len(tokens), whole
}

// want returns the fault that the grammar finds in a string that has tokens.
func (r reader) want(rule, s string, tokens []api.Token) api.Fault {
	n, whole := r.stop(rule, tokens)
	switch {
	case whole:
		return api.Fault{}
	case n == len(tokens):
		return fault(api.ErrEnd, 1+strings.Count(s, "\n"), len(s)-strings.LastIndex(s, "\n"), "")
	}
	name := strings.Trim(written(tokens[n]), `"`)
	return fault(api.ErrSyntax, tokens[n].Line, tokens[n].Col, name)
}

// P6.1: the chapter's reserved names are those of the grammar.
func TestReservedOfGrammar(t *testing.T) {
	r := newReader()
	for _, word := range strings.Fields(words) {
		if !r.reserved[word] {
			t.Error(word)
		}
	}
	if len(r.reserved) != len(strings.Fields(words)) || len(r.rules) != 5 {
		t.Error(r.reserved, r.rules)
	}
}

// P6.1, P6.2: Parse and Term find the fault that the grammar finds, if there is no other one before it.
func TestAsTheGrammarSays(t *testing.T) {
	g := newReader()
	count := map[api.Errno]int{}
	drawn(9, 2000, func(r drawer, d api.Def) {
		tokens, s := joined(r.Rand, mutated(r.Rand, tokensOf(t, text(t, d))), r.Intn(4) > 0)
		if len(s) > api.MaxText {
			return
		}
		_, f := def.Parse(s)
		want := g.want("definition", s, tokens)
		count[f.Code]++
		if f == want {
			return
		}
		other := f.Code == api.ErrTwice || f.Code == api.ErrRange || f.Code == api.ErrLimit
		if isBefore := want.Code == api.OK || f.Line < want.Line || f.Line == want.Line && f.Col < want.Col; !other || !isBefore {
			t.Fatalf("%s\n%v instead of %v", s, f, want)
		}
	})
	r := drawer{rand.New(rand.NewSource(10))}
	for range 5000 {
		x, _ := term.Text(r.term(4))
		tokens, s := joined(r.Rand, mutated(r.Rand, tokensOf(t, x)), true)
		_, f := def.Term(s)
		count[f.Code]++
		if want := g.want("term", s, tokens); f != want && f.Code != api.ErrLimit {
			t.Fatalf("%s\n%v instead of %v", s, f, want)
		}
	}
	if count[api.OK] < 100 || count[api.ErrSyntax] < 1000 || count[api.ErrEnd] < 100 {
		t.Error("few such results:", count)
	}
}

// Each string of the tests that the grammar has, Parse has.
func TestGrammarHasThem(t *testing.T) {
	g := newReader()
	for _, s := range []string{sums, full, everywhere} {
		tokens, _ := lex.Definition(s)
		if want := g.want("definition", s, tokens); want != (api.Fault{}) {
			t.Error(s, want)
		}
	}
}
