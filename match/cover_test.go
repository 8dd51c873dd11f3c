package match_test

import (
	"maps"
	"math/rand"
	"slices"
	"strconv"
	"testing"

	"voussoir/api"
	"voussoir/match"
	"voussoir/sorts"
	"voussoir/term"
)

// covers returns what Covers says of two patterns in base's signature.
func covers(t testing.TB, p, q api.Term) bool {
	t.Helper()
	ok, e := match.Covers(base(), p, q)
	if e != api.OK {
		t.Fatal(text(t, p), text(t, q), e)
	}
	return ok
}

func wantCovers(t *testing.T, want bool, p string, all ...string) {
	t.Helper()
	for _, q := range all {
		if covers(t, read(p), read(q)) != want {
			t.Error(p, "covers", q, "is not", want)
		}
	}
}

// P4.6: constants and variables
func TestCoversTerms(t *testing.T) {
	wantCovers(t, true, "_", "1", "_", "X:Int", "X:Any", "[|L]", "{K:Any -> 1}", "plus(1, _)")
	wantCovers(t, true, "X:Any", "1", "_", "X:Int", "Y:Any", "[|L]", "{K:Any -> 1}", "plus(1, _)")
	wantCovers(t, true, "X:Exp", "1", "'a", "X:Int", "Y:Id", "Y:Exp", "plus(_, _)")
	wantCovers(t, false, "X:Exp", "true", "_", "X:Any", "Y:Pgm", "nil()", "[]")
	wantCovers(t, true, "X:List", "[]", "[|L]", "[1 | L]", "L:List")
	wantCovers(t, true, "X:Map", "{}", "{|M}", "{K:Int -> _}", "M:Map")
	wantCovers(t, false, "X:Map", "[]", "L:List", "_")
	wantCovers(t, true, "1", "1")
	wantCovers(t, false, "1", "2", "X:Int", "_", "'a", "true")
	wantCovers(t, true, "plus(X:Exp, Y:Exp)", "plus(1, 'a)", "plus(Y:Int, X:Id)", "plus(X:Exp, X:Exp)", "plus(plus(_, _), 1)")
	wantCovers(t, false, "plus(X:Exp, Y:Exp)", "plus(_, 1)", "pair(1, 1)", "X:Exp", "plus(X:Pgm, 1)")
	// a variable that stands twice
	wantCovers(t, true, "pair(X:Any, X:Any)", "pair(1, 1)", "pair(Y:Int, Y:Int)", "pair([X:Any | L], [X:Any | L])", "pair({K:Id -> 1 | M}, {K:Id -> 1 | M})")
	wantCovers(t, false, "pair(X:Any, X:Any)", "pair(1, 2)", "pair(Y:Int, X:Int)", "pair(_, _)", "pair([_], [_])", "pair(box(_), box(_))")
	wantCovers(t, false, "pair(X:Any, pair(X:Any, _))", "pair(_, pair(_, _))")
	wantCovers(t, true, "pair(X:Any, pair(Y:Any, X:Any))", "pair(Z:Any, pair(_, Z:Any))")
	// names of one pattern have nothing to do with those of the other
	wantCovers(t, true, "pair(X:Any, Y:Any)", "pair(Y:Int, X:Bool)", "pair(X:Int, X:Int)", "pair(Y:List, [|Y])")
}

// P4.6: lists
func TestCoversLists(t *testing.T) {
	wantCovers(t, true, "[]", "[]")
	wantCovers(t, false, "[]", "[1]", "[|L]", "L:List", "{}")
	wantCovers(t, true, "[|L]", "[]", "[|K]", "[1 | K]", "[1, _, X:Int]")
	wantCovers(t, false, "[|L]", "K:List", "{}", "{|M}")
	wantCovers(t, true, "[X:Any | L]", "[1]", "[1 | K]", "[_, _ | K]", "[[|K] | K]")
	wantCovers(t, false, "[X:Any | L]", "[]", "[|K]")
	wantCovers(t, true, "[X:Any, Y:Any]", "[1, 2]")
	wantCovers(t, false, "[X:Any, Y:Any]", "[1]", "[1, 2, 3]", "[1, 2 | K]", "[1 | K]")
	// a Rest of q alone is that variable
	wantCovers(t, true, "pair([_ | L], L:List)", "pair([1 | K], K:List)", "pair([1], [])", "pair([1, 2 | K], [2 | K])")
	wantCovers(t, false, "pair([_ | L], L:List)", "pair([1 | K], L:List)", "pair([1, 2 | K], K:List)", "pair([1], K:List)", "pair([1, _ | K], [_ | K])")
	wantCovers(t, true, "pair([_ | L], [|L])", "pair([1 | K], [|K])", "pair([1, 2], [2])")
}

// P4.6: maps
func TestCoversMaps(t *testing.T) {
	wantCovers(t, true, "{}", "{}")
	wantCovers(t, false, "{}", "{1 -> 1}", "{|M}", "M:Map", "[]")
	wantCovers(t, true, "{|M}", "{}", "{|N}", "{1 -> 2}", "{K:Any -> 2, 1 -> 3 | N}")
	wantCovers(t, false, "{|M}", "M:Map", "[]")
	wantCovers(t, true, "{1 -> X:Int | M}", "{1 -> 2}", "{2 -> 'a, 1 -> 2}", "{K:Any -> _, 1 -> Y:Int | N}")
	wantCovers(t, false, "{1 -> X:Int | M}", "{}", "{|N}", "{2 -> 1}", "{1 -> 'a}", "{1 -> _}", "{K:Int -> 1}", "{K:Any -> 1 | N}")
	wantCovers(t, true, "{1 -> _}", "{1 -> 2}")
	wantCovers(t, false, "{1 -> _}", "{1 -> 2 | N}", "{1 -> 2, 2 -> 3}", "{|N}")
	// keys that are variables
	wantCovers(t, true, "{K:Id -> _ | M}", "{1 -> 2, 'a -> 3 | N}", "{J:Id -> 1}", "{J:Int -> 1, L:Id -> 2}")
	wantCovers(t, false, "{K:Id -> _ | M}", "{1 -> 2 | N}", "{J:Any -> 1}", "{J:Exp -> 1}", "{}")
	wantCovers(t, true, "{K:Any -> 1, J:Any -> 2}", "{'a -> 1, 'b -> 2}", "{'a -> 2, 'b -> 1}", "{A:Int -> 2, B:Int -> 1}", "{K:Any -> 1, J:Any -> 2}")
	wantCovers(t, false, "{K:Any -> 1, J:Any -> 2}", "{'a -> 1, 'b -> 1}", "{'a -> 1, 'b -> _}", "{'a -> 1, 'b -> 2 | N}", "{'a -> 1}")
	wantCovers(t, true, "[{K:Any -> _ | M}, K:Any]", "[{1 -> 0, 2 -> 0, 3 -> 0}, 2]", "[{A:Any -> 0, B:Any -> 0}, B:Any]")
	wantCovers(t, false, "[{K:Any -> _ | M}, K:Any]", "[{1 -> 0, 2 -> 0, 3 -> 0}, 4]", "[{A:Any -> 0}, B:Any]", "[{1 -> 0}, _]")
	wantCovers(t, true, "[K:Any, {K:Any -> 1 | M}]", "[A:Int, {B:Any -> 1, A:Int -> 1}]")
	wantCovers(t, false, "[K:Any, {K:Any -> 1 | M}]", "[A:Int, {B:Any -> 1, A:Int -> 2}]", "[_, {B:Any -> 1}]", "[[], {B:Any -> 1}]")
	wantCovers(t, true, "{K:Any -> J:Any, J:Any -> K:Any | M}", "{1 -> 3, 'a -> 'b, 'b -> 'a}")
	wantCovers(t, false, "{K:Any -> J:Any, J:Any -> K:Any | M}", "{1 -> 3, 'a -> 'b, 'b -> 'c}", "{1 -> 1}")
	// the same key in q twice: any entry that is not taken
	wantCovers(t, true, "{1 -> 2 | M}", "{1 -> 3, 1 -> 2}", "{1 -> 2, 1 -> 3}")
	wantCovers(t, true, "{1 -> 2, 1 -> 3}", "{1 -> 3, 1 -> 2}")
	wantCovers(t, true, "{A:Any -> 2, A:Any -> 3}", "{K:Any -> 3, K:Any -> 2}")
	wantCovers(t, false, "{1 -> 2, 1 -> 2}", "{1 -> 3, 1 -> 2}")
	// Rests
	wantCovers(t, true, "pair({1 -> _ | M}, M:Map)", "pair({1 -> 0 | N}, N:Map)", "pair({1 -> 0}, {})", "pair({1 -> 0, 2 -> 3 | N}, {2 -> 3 | N})", "pair({2 -> 3, 1 -> 0}, {2 -> 3})")
	wantCovers(t, false, "pair({1 -> _ | M}, M:Map)", "pair({1 -> 0 | N}, M:Map)", "pair({1 -> 0, 2 -> _}, {2 -> _})", "pair({1 -> 0 | N}, {})")
	wantCovers(t, true, "pair({K:Any -> _ | M}, M:Map)", "pair({1 -> 0, 2 -> 0, 3 -> 0}, {1 -> 0, 3 -> 0})")
	wantCovers(t, true, "{1 -> {2 -> _ | N} | M}", "{1 -> {2 -> 1, 3 -> 1} | N}")
}

// P4.6: ErrArg
func TestCoversArguments(t *testing.T) {
	wantNone := func(s api.Sig, p, q api.Term) {
		t.Helper()
		if ok, e := match.Covers(s, p, q); ok || e != api.ErrArg {
			t.Error(p, q, ok, e)
		}
	}
	for _, s := range invalid() {
		wantNone(s, whole(1), whole(1))
	}
	for _, p := range noPatterns() {
		wantNone(base(), p, whole(1))
		wantNone(base(), variable("X", "Any"), p)
	}
}

func boxed(int) api.Term { return list(whole(0)) }

// named returns a variable with a number.
func named(i int) api.Term { return variable("X"+strconv.Itoa(i), "Any") }

// P4.6: there is no limit.
func TestCoversMany(t *testing.T) {
	keyed := func(n int, value func(i int) api.Term) api.Term {
		var l []api.Term
		for i := range n {
			l = append(l, named(i), value(i))
		}
		return table(l...)
	}
	open, down := keyed(990, zero), keyed(900, func(i int) api.Term { return whole(-i) })
	for _, x := range []struct {
		p, q api.Term
		want bool
	}{
		{open, open, true}, {open, numbered(990, zero), true}, {keyed(989, zero), numbered(990, zero), false}, {with(keyed(989, zero), "M"), numbered(990, zero), true},
		{down, down, true}, {down, numbered(900, func(i int) api.Term { return whole(i - 899) }), true}, {down, numbered(900, func(i int) api.Term { return whole(i - 900) }), false},
		{list(keyed(900, zero), whole(1)), list(keyed(900, zero), whole(2)), false}, {list(keyed(900, zero), named(0)), list(numbered(900, zero), whole(899)), true},
		{keyed(600, func(i int) api.Term { return list(whole(i)) }), numbered(600, func(i int) api.Term { return list(whole(599 - i)) }), true},
		{keyed(60, zero), numbered(60, func(i int) api.Term { return whole(i / 59) }), false}, {with(keyed(60, boxed), "M"), numbered(70, func(i int) api.Term { return list(whole(i / 59)) }), false},
		{with(keyed(59, boxed), "M"), numbered(70, func(i int) api.Term { return list(whole(i / 59)) }), true},
	} {
		if covers(t, x.p, x.q) != x.want {
			t.Error(text(t, x.p)[:60], text(t, x.q)[:60], "is not", x.want)
		}
	}
}

// Rule 3
func TestCoversMemory(t *testing.T) {
	p, q := read("pair({K:Any -> [X:Any | L] | M}, [_, L:List])"), read("pair({2 -> [_], 1 -> [1, 2 | J] | N}, [_, [2 | J]])")
	before := text(t, p) + text(t, q)
	if !covers(t, p, q) || text(t, p)+text(t, q) != before {
		t.Error(text(t, p), text(t, q))
	}
}

// naive has all ways in which a pattern matches another one, as the document says it, each with what the variables have.
func naive(p, q api.Term, u map[string]api.Term) []map[string]api.Term {
	switch {
	case p.Kind == api.KVar:
		return naiveVariable(p, q, u)
	case p.Kind != q.Kind || p.Text != q.Text || p.N != q.N || p.Kind == api.KApp && len(p.Kids) != len(q.Kids):
		return nil
	case p.Kind == api.KMap:
		return naiveMap(p, q, u)
	case len(p.Kids) == 0 && len(p.Rest) == 0:
		if len(q.Kids)+len(q.Rest) > 0 {
			return nil
		}
		return []map[string]api.Term{u}
	case len(p.Kids) == 0:
		return naiveVariable(p.Rest[0], naiveRest(q), u)
	case len(q.Kids) == 0:
		return nil
	}
	var all []map[string]api.Term
	p.Kids, q.Kids = slices.Clone(p.Kids), slices.Clone(q.Kids)
	first, other := p.Kids[0], q.Kids[0]
	p.Kids, q.Kids = p.Kids[1:], q.Kids[1:]
	for _, v := range naive(first, other, u) {
		all = append(all, naive(p, q, v)...)
	}
	return all
}

func naiveRest(q api.Term) api.Term {
	if len(q.Kids) == 0 && len(q.Rest) > 0 {
		return q.Rest[0]
	}
	return q
}

func naiveVariable(p, q api.Term, u map[string]api.Term) []map[string]api.Term {
	sort, _ := term.Sort(base(), q)
	fits, _ := sorts.AtMost(base(), sort, p.Sort)
	old, there := u[p.Text]
	if !fits || there && (!term.Same(old, q) || hasUnnamed(q)) {
		return nil
	}
	u = maps.Clone(u)
	if p.Text != "_" {
		u[p.Text] = q
	}
	return []map[string]api.Term{u}
}

func hasUnnamed(q api.Term) bool {
	return q.Kind == api.KVar && q.Text == "_" || slices.ContainsFunc(q.Kids, hasUnnamed)
}

func naiveMap(p, q api.Term, u map[string]api.Term) []map[string]api.Term {
	if len(p.Kids) == 0 {
		if len(p.Rest) > 0 {
			return naiveVariable(p.Rest[0], naiveRest(q), u)
		}
		if len(q.Kids)+len(q.Rest) > 0 {
			return nil
		}
		return []map[string]api.Term{u}
	}
	var all []map[string]api.Term
	rest := p
	rest.Kids = p.Kids[2:]
	for i := 0; i < len(q.Kids); i += 2 {
		left := q
		left.Kids = slices.Delete(slices.Clone(q.Kids), i, i+2)
		for _, v := range naiveKey(p.Kids[0], q.Kids[i], u) {
			for _, w := range naive(p.Kids[1], q.Kids[i+1], v) {
				all = append(all, naiveMap(rest, left, w)...)
			}
		}
	}
	return all
}

// naiveKey matches keys. One that has a term already stands for it.
func naiveKey(p, q api.Term, u map[string]api.Term) []map[string]api.Term {
	old, there := u[p.Text]
	switch {
	case p.Kind != api.KVar || !there:
		return naive(p, q, u)
	case term.Same(old, q):
		return []map[string]api.Term{u}
	}
	return nil
}

// P4.6: Covers says what all choices say, one after the other.
func TestCoversAsChoices(t *testing.T) {
	r := rand.New(rand.NewSource(6))
	count := map[bool]int{}
	for range 6000 {
		q := newMaker(r).pattern(drawTerm(r, 4))
		p := newMaker(r).pattern(q)
		want := len(naive(p, q, map[string]api.Term{})) > 0
		if covers(t, p, q) != want {
			t.Fatal(text(t, p), text(t, q), "is not", want)
		}
		count[want]++
	}
	if count[true] < 500 || count[false] < 500 {
		t.Error("few patterns:", count)
	}
}

// P4.6: of a term without variables Covers says whether Match has a substitution.
func TestCoversPlain(t *testing.T) {
	r := rand.New(rand.NewSource(7))
	for range 2000 {
		x := drawTerm(r, 4)
		p := newMaker(r).pattern(x)
		if got := covers(t, p, x); got != (len(matches(t, p, x, nil)) > 0) {
			t.Fatal(text(t, p), text(t, x), got)
		}
		if !covers(t, p, p) {
			t.Fatal(text(t, p), "does not cover itself")
		}
	}
}

// P4.11
func TestCovered(t *testing.T) {
	r := rand.New(rand.NewSource(8))
	held := 0
	for range 2000 {
		q := newMaker(r).pattern(drawTerm(r, 4))
		p := newMaker(r).pattern(q)
		if !covers(t, p, q) {
			continue
		}
		for range 5 {
			x, ok := instance(r, q)
			if !ok || len(matches(t, q, x, nil)) == 0 {
				continue
			}
			held++
			if len(matches(t, p, x, nil)) == 0 {
				t.Fatal(text(t, p), "covers", text(t, q), "but not", text(t, x))
			}
		}
	}
	if held < 500 {
		t.Error("few instances:", held)
	}
}
