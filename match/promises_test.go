package match_test

import (
	"math/rand"
	"slices"
	"strconv"
	"testing"

	"voussoir/api"
	"voussoir/match"
	"voussoir/sorts"
	"voussoir/term"
)

// drawKey returns a key that is drawn of few.
func drawKey(r *rand.Rand) api.Term {
	return reads("0", "1", "2", "\"a\"", "'a", "'b")[r.Intn(6)]
}

// drawTerm returns a plain term that is drawn, nested at most so deep. Its parts are often the same.
func drawTerm(r *rand.Rand, depth int) api.Term {
	if depth <= 1 {
		return append(reads("true", "nil()", "[]", "{}"), drawKey(r), drawKey(r), drawKey(r))[r.Intn(7)]
	}
	next := func() api.Term { return drawTerm(r, 1+r.Intn(depth-1)) }
	switch r.Intn(6) {
	case 0:
		return api.Term{Kind: api.KApp, Text: "plus", Kids: reads("1", []string{"2", "'a", "plus(1, 2)"}[r.Intn(3)])}
	case 1:
		return api.Term{Kind: api.KApp, Text: "pair", Kids: []api.Term{next(), next()}}
	case 2, 3:
		return list(many(r.Intn(4), func(int) api.Term { return next() })...)
	}
	var all []api.Term
	for _, key := range reads("0", "1", "2", "\"a\"", "'a", "'b") {
		if r.Intn(2) == 0 {
			all = append(all, key, next())
		}
	}
	return table(all...)
}

// maker makes patterns of terms, and of other patterns: it puts variables for parts. Each of them has one sort.
type maker struct {
	*rand.Rand
	sort map[string]string
}

func newMaker(r *rand.Rand) maker { return maker{r, map[string]string{}} }

// name returns the name of a variable of a sort.
func (m maker) name(sort string) string {
	for range 3 {
		name := string(rune('A' + m.Intn(4)))
		if old, there := m.sort[name]; !there || old == sort {
			m.sort[name] = sort
			return name
		}
	}
	name := sort + strconv.Itoa(m.Intn(3))
	m.sort[name] = sort
	return name
}

// variable returns a variable for a term, mostly of a sort that allows it.
func (m maker) variable(t api.Term) api.Term {
	sort, _ := term.Sort(base(), t)
	above, _ := sorts.Above(base(), sort)
	if m.Intn(12) == 0 {
		above = []string{"Int", "Id", "Pgm"}
	}
	sort = above[m.Intn(len(above))]
	return variable(m.name(sort), sort)
}

func (m maker) pattern(t api.Term) api.Term {
	switch n := m.Intn(12); {
	case n == 0:
		return variable("_", "Any")
	case n < 4 || t.Kind == api.KVar:
		return m.variable(t)
	}
	switch t.Kind {
	case api.KApp:
		return m.application(t)
	case api.KMap:
		return m.table(t)
	}
	if t.Kind == api.KList {
		return m.list(t)
	}
	return t
}

// list perhaps puts a Rest for the last elements.
func (m maker) list(t api.Term) api.Term {
	all := t
	all.Kids = nil
	for _, kid := range t.Kids {
		if m.Intn(6) == 0 {
			return with(all, m.name("List"))
		}
		all.Kids = append(all.Kids, m.pattern(kid))
	}
	return m.rest(all, "List")
}

// application leaves a term as it is where a pattern would not fit.
func (m maker) application(t api.Term) api.Term {
	all := t
	all.Kids = nil
	for _, kid := range t.Kids {
		all.Kids = append(all.Kids, m.pattern(kid))
	}
	if !term.Fits(base(), all) {
		return t
	}
	return all
}

// rest gives a list or map with a Rest one, and perhaps others.
func (m maker) rest(t api.Term, sort string) api.Term {
	if len(t.Rest) > 0 || m.Intn(8) == 0 {
		return with(t, m.name(sort))
	}
	return t
}

// table perhaps puts a Rest for some entries, and has the others in any order.
func (m maker) table(t api.Term) api.Term {
	all := t
	all.Kids = nil
	for _, i := range m.Perm(len(t.Kids) / 2) {
		key, value := t.Kids[2*i], t.Kids[2*i+1]
		if m.Intn(5) == 0 {
			all = with(all, m.name("Map"))
			continue
		}
		if key.Kind == api.KVar || m.Intn(2) == 0 {
			key = m.variable(key)
		}
		all.Kids = append(all.Kids, key, m.pattern(value))
	}
	return m.rest(all, "Map")
}

// changed returns a term with all its variables, but not Rests, changed.
func changed(p api.Term, change func(variable api.Term) api.Term) api.Term {
	if p.Kind == api.KVar {
		return change(p)
	}
	var kids []api.Term
	for _, kid := range p.Kids {
		kids = append(kids, changed(kid, change))
	}
	p.Kids = kids
	return p
}

// withoutUnnamed returns a pattern with names for its variables _.
func withoutUnnamed(p api.Term) api.Term {
	n := 0
	return changed(p, func(v api.Term) api.Term {
		if v.Text == "_" {
			n++
			v.Text = "U" + strconv.Itoa(n)
		}
		return v
	})
}

// drawOf returns a plain term that is drawn, of a sort that is at most another one.
func drawOf(r *rand.Rand, sort string) api.Term {
	all := map[string][]string{
		"Int": {"0", "1", "7"}, "Bool": {"true", "false"}, "Text": {"\"a\"", "\"\""}, "Id": {"'a", "'b"}, "Exp": {"0", "'a", "plus(0, 'b)"}, "Pgm": {"nil()", "0", "'a"}, "Alone": {"box(1)", "pair([], 'a)"},
		"List": {"[]", "[0]", "['a, [1]]"}, "Map": {"{}", "{7 -> 0}", "{7 -> 'a, 'c -> []}"}, "Any": {"0", "true", "'a", "[1]", "{'b -> 0}", "\"a\""},
	}[sort]
	return read(all[r.Intn(len(all))])
}

// instance returns a pattern with terms that are drawn for all variables, if that is a plain term.
func instance(r *rand.Rand, q api.Term) (api.Term, bool) {
	q = withoutUnnamed(q)
	sort := map[string]string{}
	changed(q, func(v api.Term) api.Term { sort[v.Text] = v.Sort; return v })
	for _, part := range append(parts(q), q) {
		for _, rest := range part.Rest {
			sort[rest.Text] = rest.Sort
		}
	}
	names, _ := term.Vars(q)
	var u api.Subst
	for _, name := range names {
		u = append(u, api.Pair{Var: name, Term: drawOf(r, sort[name])})
	}
	x, e := match.Put(base(), q, u)
	return x, e == api.OK && term.Plain(base(), x)
}

// P4.7, and the results are valid.
func TestMatched(t *testing.T) {
	r := rand.New(rand.NewSource(1))
	found := 0
	for range 5000 {
		x := drawTerm(r, 4)
		p := withoutUnnamed(newMaker(r).pattern(x))
		names, _ := term.Vars(p)
		for _, u := range matches(t, p, x, nil) {
			found++
			if !match.Valid(base(), u) || !slices.EqualFunc(u, names, func(pair api.Pair, name string) bool { return pair.Var == name }) {
				t.Fatal(text(t, p), text(t, x), shown(t, u))
			}
			if !term.Same(put(t, p, u), x) {
				t.Fatal(text(t, p), shown(t, u), "is not", text(t, x))
			}
		}
	}
	if found < 1000 {
		t.Error("few substitutions:", found)
	}
}

// parts returns all parts of a plain term, and what Rests can stand for.
func parts(x api.Term) []api.Term {
	all := []api.Term{x}
	for i, kid := range x.Kids {
		all = append(all, parts(kid)...)
		if x.Kind == api.KList {
			all = append(all, list(x.Kids[i+1:]...))
		}
	}
	if x.Kind != api.KMap {
		return all
	}
	for chosen := range 1 << (len(x.Kids) / 2) {
		var some []api.Term
		for i := 0; i < len(x.Kids); i += 2 {
			if chosen>>(i/2)&1 == 1 {
				some = append(some, x.Kids[i], x.Kids[i+1])
			}
		}
		all = append(all, table(some...))
	}
	return all
}

// different returns terms, each once.
func different(l []api.Term) []api.Term {
	order := func(a, b api.Term) int { n, _ := term.Compare(a, b); return n }
	l = slices.Clone(l)
	slices.SortFunc(l, order)
	return slices.CompactFunc(l, term.Same)
}

// every calls try with each substitution that gives names terms of a list.
func every(names []string, l []api.Term, u api.Subst, try func(u api.Subst)) {
	if len(names) == 0 {
		try(u)
		return
	}
	for _, x := range l {
		every(names[1:], l, append(slices.Clip(u), api.Pair{Var: names[0], Term: x}), try)
	}
}

// P4.8: Match has all substitutions of parts of the term, and it has each once.
func TestAll(t *testing.T) {
	r := rand.New(rand.NewSource(2))
	patterns, found := 0, 0
	for patterns < 150 {
		x := drawTerm(r, 3)
		p := withoutUnnamed(newMaker(r).pattern(x))
		names, _ := term.Vars(p)
		l := different(parts(x))
		if len(names) > 3 || len(names) == 3 && len(l) > 16 || len(names) == 2 && len(l) > 50 {
			continue
		}
		patterns++
		var want []string
		every(names, l, nil, func(u api.Subst) {
			if got, e := match.Put(base(), p, u); e == api.OK && term.Same(got, x) {
				want = append(want, shown(t, u))
			}
		})
		got := shownAll(t, matches(t, p, x, nil))
		slices.Sort(want)
		slices.Sort(got)
		if !slices.Equal(got, want) {
			t.Fatal(text(t, p), text(t, x), got, "not", want)
		}
		found += len(got)
	}
	if found < 100 {
		t.Error("few substitutions:", found)
	}
}

// more returns a substitution together with all terms of another one that has its variables.
func more(t *testing.T, u api.Subst, terms map[string]api.Term) api.Subst {
	t.Helper()
	for name, x := range terms {
		w, e := match.Bind(base(), u, name, x)
		if e != api.OK {
			t.Fatal(shown(t, u), name, text(t, x), e)
		}
		u = w
	}
	return u
}

// resorted returns a pattern in which some variables have a sort that is drawn; those of Rests stay.
func resorted(r *rand.Rand, p api.Term) api.Term {
	drawn := map[string]string{"_": "Any"}
	return changed(p, func(v api.Term) api.Term {
		if _, there := drawn[v.Text]; !there && v.Sort != "List" && v.Sort != "Map" {
			drawn[v.Text] = []string{v.Sort, v.Sort, "Int", "Id"}[r.Intn(4)]
		}
		if sort, there := drawn[v.Text]; there {
			v.Sort = sort
		}
		return v
	})
}

// drawGiven returns terms for some of a pattern's variables, and for another one: often such as one substitution has, else parts of the term.
func drawGiven(t *testing.T, r *rand.Rand, p, x api.Term) map[string]api.Term {
	t.Helper()
	given := map[string]api.Term{}
	l := append(parts(x), drawKey(r), drawTerm(r, 2))
	names, _ := term.Vars(p)
	for _, name := range append(names, "Other") {
		if r.Intn(3) == 0 {
			given[name] = l[r.Intn(len(l))]
		}
	}
	all := matches(t, p, x, nil)
	if len(all) == 0 || r.Intn(3) == 0 {
		return given
	}
	for _, pair := range all[r.Intn(len(all))] {
		if _, there := given[pair.Var]; there {
			given[pair.Var] = pair.Term
		}
	}
	return given
}

// P4.2, P4.9: Match with a substitution gives what all choices give, one after the other, each with all that it has.
func TestMore(t *testing.T) {
	r := rand.New(rand.NewSource(3))
	found, odd := 0, 0
	for range 6000 {
		x := drawTerm(r, 4)
		p := newMaker(r).pattern(x)
		given := drawGiven(t, r, p, x)
		p = resorted(r, p)
		u := more(t, nil, given)
		var want []string
		for _, terms := range naive(p, x, given) {
			want = append(want, shown(t, more(t, u, terms)))
		}
		if got := shownAll(t, matches(t, p, x, u)); !slices.Equal(got, want) {
			t.Fatal(text(t, p), text(t, x), shown(t, u), got, "not", want)
		}
		found += len(want)
		if _, e := match.Put(base(), p, u); e == api.ErrSort {
			odd += len(want)
		}
	}
	if found < 1000 || odd < 20 {
		t.Error("few substitutions:", found, "with keys of other sorts:", odd)
	}
}

// raised returns a pattern with sorts of variables that are higher, or as high; those of Rests stay.
func raised(r *rand.Rand, p api.Term) api.Term {
	higher := map[string]string{"_": "Any"}
	return changed(p, func(v api.Term) api.Term {
		if _, there := higher[v.Text]; !there && v.Sort != "List" && v.Sort != "Map" {
			above, _ := sorts.Above(base(), v.Sort)
			higher[v.Text] = above[r.Intn(len(above))]
		}
		if sort, there := higher[v.Text]; there {
			v.Sort = sort
		}
		return v
	})
}

// P4.10
func TestHigherSorts(t *testing.T) {
	r := rand.New(rand.NewSource(4))
	more := 0
	for range 5000 {
		x := drawTerm(r, 4)
		p := newMaker(r).pattern(x)
		q := raised(r, p)
		few, many := matches(t, p, x, nil), matches(t, q, x, nil)
		if len(few) > len(many) {
			t.Fatal(text(t, p), text(t, q), text(t, x), len(few), len(many))
		}
		if len(few) < len(many) {
			more++
		}
	}
	if more < 50 {
		t.Error("few patterns that match more:", more)
	}
}
