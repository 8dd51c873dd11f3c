package term_test

import (
	"math/rand"
	"slices"
	"testing"

	"voussoir/api"
	"voussoir/term"
)

// draw returns a well formed term that is drawn, nested at most so deep. There are few names and numbers, so that terms are often the same in parts.
func draw(r *rand.Rand, depth int) api.Term {
	names := []string{"a", "b", "plus"}
	one := func() string { return names[r.Intn(len(names))] }
	kinds := 8
	if depth <= 1 {
		kinds = 5
	}
	kids := func(n int) []api.Term {
		var l []api.Term
		for range n {
			l = append(l, draw(r, depth-1))
		}
		return l
	}
	ends := func(t api.Term) api.Term {
		if r.Intn(3) == 0 {
			return with(t, one())
		}
		return t
	}
	switch r.Intn(kinds) {
	case 0:
		return whole(r.Intn(3) - 1)
	case 1:
		return truth(r.Intn(2))
	case 2:
		return str([]string{"", "a", "a, b"}[r.Intn(3)])
	case 3:
		return id(one())
	case 4:
		return []api.Term{variable(one(), []string{"Int", "a", "Any"}[r.Intn(3)]), variable("_", "Any"), variable("$", "Any")}[r.Intn(3)]
	case 5:
		return app(one()+[]string{"", "", "'1"}[r.Intn(3)], kids(r.Intn(3))...)
	case 6:
		return ends(list(kids(r.Intn(3))...))
	}
	return ends(table(kids(2 * r.Intn(3))...))
}

// drawn returns terms; the same ones at each call.
func drawn(n int) []api.Term {
	r := rand.New(rand.NewSource(1))
	var l []api.Term
	for range n {
		l = append(l, draw(r, 1+r.Intn(4)))
	}
	return l
}

// P2.10
func TestOrder(t *testing.T) {
	l := drawn(120)
	at := make([][]int, len(l))
	for i, a := range l {
		for _, b := range l {
			c, e := term.Compare(a, b)
			if e != api.OK || c < -1 || c > 1 || (c == 0) != term.Same(a, b) {
				t.Fatal(text(t, a), text(t, b), c, e)
			}
			at[i] = append(at[i], c)
		}
	}
	for i := range l {
		for j := range l {
			if at[i][j] != -at[j][i] {
				t.Fatal("exchanged:", text(t, l[i]), text(t, l[j]))
			}
			for k := range l {
				if at[i][j] <= 0 && at[j][k] <= 0 && at[i][k] > 0 {
					t.Fatal("not transitive:", text(t, l[i]), text(t, l[j]), text(t, l[k]))
				}
			}
		}
	}
}

// P2.11
func TestStrings(t *testing.T) {
	named := map[string]api.Term{}
	for _, x := range append(drawn(3000), rising()...) {
		s := text(t, x)
		if y, there := named[s]; there && !term.Same(x, y) {
			t.Error("two terms:", s)
		}
		named[s] = x
	}
	if len(named) < 500 {
		t.Error("few strings:", len(named))
	}
}

// paths returns all paths of a term.
func paths(x api.Term) [][]int {
	all := [][]int{{}}
	for i, kid := range x.Kids {
		for _, path := range paths(kid) {
			all = append(all, append([]int{i}, path...))
		}
	}
	return all
}

func size(t *testing.T, x api.Term) int {
	t.Helper()
	n, e := term.Size(x)
	if e != api.OK {
		t.Fatal(x, e)
	}
	return n
}

// P2.12
func TestParts(t *testing.T) {
	l := drawn(200)
	for i, x := range l {
		u := l[(i+1)%len(l)]
		for _, path := range paths(x) {
			old, e := term.At(x, path)
			same, f := term.With(x, path, old)
			if e != api.OK || f != api.OK || !term.Same(same, x) {
				t.Fatal("With of At:", text(t, x), path, e, f)
			}
			changed, e := term.With(x, path, u)
			back, f := term.At(changed, path)
			if e != api.OK || f != api.OK || !term.Same(back, u) {
				t.Fatal("At after With:", text(t, x), path, text(t, u), e, f)
			}
			if size(t, changed) != size(t, x)-size(t, old)+size(t, u) {
				t.Fatal("Size:", text(t, x), path, text(t, u))
			}
			if restored, _ := term.With(changed, path, old); !term.Same(restored, x) {
				t.Fatal("restored:", text(t, x), path, text(t, u))
			}
		}
	}
}

// P2.13
func TestRenamed(t *testing.T) {
	names := []string{"a", "b", "plus", "Int", "Any", "List", "Map", "New"}
	for _, x := range drawn(200) {
		for _, a := range names {
			for _, b := range names {
				there, e := term.Rename(x, a, b)
				back, f := term.Rename(there, a, b)
				if e != api.OK || f != api.OK || !term.Same(back, x) {
					t.Fatal("twice:", text(t, x), a, b, e, f)
				}
				d, _ := term.Depth(x)
				if now, _ := term.Depth(there); now != d || size(t, there) != size(t, x) {
					t.Fatal("Size or Depth:", text(t, x), a, b)
				}
			}
		}
	}
}

// plainLike returns terms of base's signature that are plain, or nearly so.
func plainLike(r *rand.Rand, depth int) api.Term {
	next := func() api.Term { return plainLike(r, depth-1) }
	n := 14
	if depth <= 1 {
		n = 6
	}
	switch r.Intn(n) {
	case 0, 1:
		return whole(r.Intn(3))
	case 2:
		return truth(1)
	case 3:
		return id("a")
	case 4:
		return app("nil")
	case 5:
		return []api.Term{variable("X", "Int"), app("any"), with(list(), "L"), str("a")}[r.Intn(4)]
	case 6, 7:
		return app("plus", next(), next())
	case 8:
		return app("box", next())
	case 9:
		return app("plus'1", next())
	case 10, 11:
		return list(next(), next())
	case 12:
		return table(whole(1), next(), id("a"), next())
	}
	return table(next(), next())
}

// P2.14, and P2.1: a plain term is still plain in all its parts.
func TestPlainTerms(t *testing.T) {
	r := rand.New(rand.NewSource(2))
	plain := 0
	for range 2000 {
		x := plainLike(r, 3)
		if !term.Plain(base(), x) {
			continue
		}
		plain++
		vars, e := term.Vars(x)
		if len(vars) != 0 || e != api.OK || !term.Fits(base(), x) || !term.Valid(x) {
			t.Fatal(text(t, x), vars, e)
		}
		if _, e := term.Sort(base(), x); e != api.OK {
			t.Fatal(text(t, x), e)
		}
		for _, path := range paths(x) {
			if part, _ := term.At(x, path); !term.Plain(base(), part) {
				t.Fatal(text(t, x), path)
			}
		}
		if slices.ContainsFunc(paths(x), func(path []int) bool { y, _ := term.With(x, path, variable("X", "Any")); return term.Plain(base(), y) }) {
			t.Fatal("with a variable:", text(t, x))
		}
	}
	if plain < 200 {
		t.Error("few plain terms:", plain)
	}
}
