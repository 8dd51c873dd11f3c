package match_test

import (
	"strconv"
	"strings"
	"testing"

	"voussoir/api"
	"voussoir/match"
	"voussoir/term"
)

// base returns a valid signature. It is new memory at each call.
func base() api.Sig {
	return api.Sig{
		Sorts: []string{"Exp", "Pgm", "Alone"},
		Below: []api.Below{{Low: "Int", High: "Exp"}, {Low: "Id", High: "Exp"}, {Low: "Exp", High: "Pgm"}},
		Ops: []api.Op{
			{Name: "plus", Args: []string{"Exp", "Exp"}, Sort: "Exp"},
			{Name: "box", Args: []string{"Any"}, Sort: "Alone"},
			{Name: "pair", Args: []string{"Any", "Any"}, Sort: "Alone"},
			{Name: "block", Args: []string{"List", "Map"}, Sort: "Pgm"},
			{Name: "nil", Sort: "Pgm"},
		},
		Funs:   []api.Op{{Name: "len", Args: []string{"List"}, Sort: "Int"}},
		Values: []string{"Int"},
	}
}

// invalid returns signatures that are not valid.
func invalid() []api.Sig {
	unknown, circle, twice := base(), base(), base()
	unknown.Values = []string{"Nothing"}
	circle.Below = append(circle.Below, api.Below{Low: "Pgm", High: "Exp"})
	twice.Funs[0].Name = "plus"
	return []api.Sig{unknown, circle, twice}
}

// reader reads terms as definitions have them.
type reader struct{ left string }

// read returns the term of a string.
func read(s string) api.Term {
	r := &reader{s}
	t := r.term()
	if r.left != "" {
		panic("no term: " + s + ": " + r.left)
	}
	return t
}

// reads returns the terms of strings.
func reads(all ...string) []api.Term {
	var l []api.Term
	for _, s := range all {
		l = append(l, read(s))
	}
	return l
}

// subst returns the substitution of a string: terms after the names of variables, with ; between them.
func subst(s string) api.Subst {
	var u api.Subst
	for pair := range strings.SplitSeq(s, ";") {
		if name, t, ok := strings.Cut(pair, "="); ok {
			u = append(u, api.Pair{Var: strings.TrimSpace(name), Term: read(t)})
		}
	}
	return u
}

func (r *reader) sign(s string) bool {
	r.left = strings.TrimLeft(r.left, " ")
	left, ok := strings.CutPrefix(r.left, s)
	r.left = left
	return ok
}

func (r *reader) word() string {
	isEnd := func(c rune) bool { return strings.ContainsRune(" ()[]{},:|\"->;", c) }
	word := r.left
	if n := strings.IndexFunc(r.left, isEnd); n >= 0 {
		word = r.left[:n]
	}
	r.left = r.left[len(word):]
	return word
}

func (r *reader) term() api.Term {
	switch {
	case r.sign("["):
		return r.kids(api.Term{Kind: api.KList}, "]")
	case r.sign("{"):
		return r.kids(api.Term{Kind: api.KMap}, "}")
	case r.sign("'"):
		return api.Term{Kind: api.KId, Text: r.word()}
	case r.sign("\""):
		s, left, _ := strings.Cut(r.left, "\"")
		r.left = left
		return api.Term{Kind: api.KText, Text: s}
	case r.sign("-"):
		return whole(-r.term().N)
	}
	word := r.word()
	n, err := strconv.Atoi(word)
	switch {
	case err == nil:
		return whole(n)
	case word == "true":
		return api.Term{Kind: api.KBool, N: 1}
	case word == "false":
		return api.Term{Kind: api.KBool}
	case word == "_" || word == "$":
		return variable(word, "Any")
	case r.sign("("):
		return r.kids(api.Term{Kind: api.KApp, Text: word}, ")")
	case r.sign(":"):
		return variable(word, r.word())
	}
	panic("no term: " + word + r.left)
}

func (r *reader) kids(t api.Term, last string) api.Term {
	for !r.sign(last) {
		if r.sign("|") {
			r.sign("")
			t = with(t, r.word())
			continue
		}
		t.Kids = append(t.Kids, r.term())
		if !r.sign("->") {
			r.sign(",")
		}
	}
	return t
}

func whole(n int) api.Term { return api.Term{Kind: api.KInt, N: n} }

func variable(name, sort string) api.Term { return api.Term{Kind: api.KVar, Text: name, Sort: sort} }

func list(kids ...api.Term) api.Term { return api.Term{Kind: api.KList, Kids: kids} }

func table(kids ...api.Term) api.Term { return api.Term{Kind: api.KMap, Kids: kids} }

// with returns a list or a map with a Rest.
func with(t api.Term, name string) api.Term {
	t.Rest = []api.Term{variable(name, map[api.Kind]string{api.KList: "List", api.KMap: "Map"}[t.Kind])}
	return t
}

// nested returns a term in n lists.
func nested(n int, t api.Term) api.Term {
	for range n {
		t = list(t)
	}
	return t
}

// many returns n terms, made of the numbers from 0 on.
func many(n int, one func(i int) api.Term) []api.Term {
	var l []api.Term
	for i := range n {
		l = append(l, one(i))
	}
	return l
}

// numbered returns a map of n entries, with the keys from 0 on.
func numbered(n int, value func(i int) api.Term) api.Term {
	var l []api.Term
	for i := range n {
		l = append(l, whole(i), value(i))
	}
	return table(l...)
}

func zero(int) api.Term { return whole(0) }

// text returns the string of a term that has one.
func text(t testing.TB, x api.Term) string {
	t.Helper()
	s, e := term.Text(x)
	if e != api.OK {
		t.Fatal(x, e)
	}
	return s
}

// shown returns a substitution as subst reads it.
func shown(t testing.TB, u api.Subst) string {
	t.Helper()
	var all []string
	for _, pair := range u {
		all = append(all, pair.Var+" = "+text(t, pair.Term))
	}
	return strings.Join(all, "; ")
}

func shownAll(t testing.TB, l []api.Subst) []string {
	t.Helper()
	var all []string
	for _, u := range l {
		all = append(all, shown(t, u))
	}
	return all
}

// matches returns all substitutions of a pattern in base's signature, and looks whether First agrees.
func matches(t testing.TB, p, x api.Term, u api.Subst) []api.Subst {
	t.Helper()
	all, e := match.Match(base(), p, x, u)
	if e != api.OK {
		t.Fatal("Match", text(t, p), text(t, x), shown(t, u), e)
	}
	first, e := match.First(base(), p, x, u)
	if len(all) == 0 && (e != api.ErrNone || len(first) != 0) {
		t.Fatal("First", text(t, p), text(t, x), shown(t, u), first, e)
	}
	if len(all) > 0 && (e != api.OK || shown(t, first) != shown(t, all[0])) {
		t.Fatal("First", text(t, p), text(t, x), shown(t, u), first, e)
	}
	return all
}

// put returns what Put gives for a term that it takes.
func put(t testing.TB, x api.Term, u api.Subst) api.Term {
	t.Helper()
	got, e := match.Put(base(), x, u)
	if e != api.OK {
		t.Fatal("Put", text(t, x), shown(t, u), e)
	}
	return got
}

// spoil writes over all memory of terms.
func spoil(l []api.Term) {
	for i := range l {
		spoil(l[i].Kids)
		spoil(l[i].Rest)
		l[i] = whole(-99)
	}
}

// spoilSubst writes over all memory of a substitution.
func spoilSubst(u api.Subst) {
	for i := range u {
		spoil(u[i].Term.Kids)
		u[i] = api.Pair{Var: "Spoilt"}
	}
}
