package value_test

import (
	"math/rand"
	"slices"
	"testing"

	"voussoir/api"
	"voussoir/sorts"
	"voussoir/term"
	"voussoir/value"
)

// integers returns integers near those where something changes.
func integers() []api.Term {
	var l []api.Term
	for _, n := range []int{0, 1, 2, 3, 7, 10, 1 << 15, 46340, 46341, 1 << 16, 1 << 30, most - 1, most} {
		l = append(l, whole(n), whole(-n))
	}
	return l
}

// same reports whether two calls have the same result, or the same error.
func same(name string, args []api.Term, other string, others []api.Term) bool {
	x, e := value.Apply(base(), name, args)
	y, f := value.Apply(base(), other, others)
	return e == f && term.Same(x, y)
}

// P3.4
func TestArithmeticLaws(t *testing.T) {
	for _, a := range integers() {
		for _, b := range integers() {
			for _, name := range []string{"add", "mul"} {
				if !same(name, []api.Term{a, b}, name, []api.Term{b, a}) {
					t.Error(name, a.N, b.N)
				}
			}
			if !same("sub", []api.Term{a, b}, "add", []api.Term{a, apply(t, "neg", b)}) {
				t.Error("sub", a.N, b.N)
			}
			if b.N != 0 {
				wantDivided(t, a, b)
			}
		}
	}
}

func wantDivided(t *testing.T, a, b api.Term) {
	t.Helper()
	left := apply(t, "mod", a, b)
	if left.N != 0 && (left.N < 0) != (b.N < 0) || max(left.N, -left.N) >= max(b.N, -b.N) {
		t.Error("mod", a.N, b.N, left.N)
	}
	product, e := value.Apply(base(), "mul", []api.Term{apply(t, "div", a, b), b})
	if e != api.OK {
		return
	}
	if sum, e := value.Apply(base(), "add", []api.Term{product, left}); e != api.OK || sum.N != a.N {
		t.Error("div and mod", a.N, b.N, sum.N, e)
	}
}

// P3.5
func TestComparisonLaws(t *testing.T) {
	for _, a := range integers() {
		for _, b := range integers() {
			if apply(t, "lt", a, b).N+apply(t, "eq", a, b).N+apply(t, "gt", a, b).N != 1 {
				t.Error("not one", a.N, b.N)
			}
			if !same("le", []api.Term{a, b}, "not", []api.Term{apply(t, "gt", a, b)}) || !same("ge", []api.Term{a, b}, "le", []api.Term{b, a}) {
				t.Error("le, ge", a.N, b.N)
			}
		}
	}
}

// drawKey returns a key that is drawn of few.
func drawKey(r *rand.Rand) api.Term {
	names := []string{"a", "b", "ab"}
	name := names[r.Intn(len(names))]
	return []api.Term{whole(r.Intn(5) - 2), str(name), id(name)}[r.Intn(3)]
}

// drawMap returns a map that is drawn, made by put.
func drawMap(t *testing.T, r *rand.Rand, depth int) api.Term {
	m := table()
	for range r.Intn(6) {
		m = apply(t, "put", m, drawKey(r), draw(t, r, depth-1))
	}
	return m
}

func drawList(t *testing.T, r *rand.Rand, depth int) api.Term {
	var l []api.Term
	for range r.Intn(4) {
		l = append(l, draw(t, r, depth-1))
	}
	return list(l...)
}

// draw returns a plain term that is drawn, nested about so deep.
func draw(t *testing.T, r *rand.Rand, depth int) api.Term {
	if depth <= 1 {
		return []api.Term{drawKey(r), truth(r.Intn(2)), app("nil")}[r.Intn(3)]
	}
	switch r.Intn(5) {
	case 0:
		return drawMap(t, r, depth)
	case 1:
		return drawList(t, r, depth)
	case 2:
		return app("box", draw(t, r, depth-1))
	case 3:
		return app("plus", whole(r.Intn(9)), id("a"))
	}
	return drawKey(r)
}

// P3.6
func TestMapLaws(t *testing.T) {
	r := rand.New(rand.NewSource(3))
	for range 400 {
		m, key, x := drawMap(t, r, 3), drawKey(r), draw(t, r, 2)
		after := apply(t, "put", m, key, x)
		if !term.Same(apply(t, "get", after, key), x) {
			t.Fatal("get of put", text(t, m), text(t, key), text(t, x))
		}
		for range 3 {
			other := drawKey(r)
			if !term.Same(other, key) && (!same("get", []api.Term{after, other}, "get", []api.Term{m, other}) || !same("has", []api.Term{after, other}, "has", []api.Term{m, other})) {
				t.Fatal("get of others", text(t, m), text(t, key), text(t, other))
			}
		}
		wantKeys(t, m, key, after)
	}
}

// wantKeys says of a map after put of a key how its keys have changed.
func wantKeys(t *testing.T, m, key, after api.Term) {
	t.Helper()
	want := apply(t, "keys", m).Kids
	isNew := apply(t, "has", m, key).N == 0
	if isNew {
		want = append(want, key)
	}
	slices.SortFunc(want, func(a, b api.Term) int { order, _ := term.Compare(a, b); return order })
	got := apply(t, "keys", after).Kids
	if !slices.EqualFunc(got, want, term.Same) {
		t.Fatal("keys of put", text(t, m), text(t, key), got)
	}
	if isNew && !term.Same(apply(t, "del", after, key), m) {
		t.Fatal("del of put", text(t, m), text(t, key))
	}
	if gone := apply(t, "del", after, key); apply(t, "has", gone, key).N != 0 || apply(t, "size", gone).N != len(want)-1 {
		t.Fatal("del", text(t, after), text(t, key), text(t, gone))
	}
	if n := apply(t, "size", after).N; n != len(got) || n != apply(t, "length", apply(t, "keys", after)).N {
		t.Fatal("size", text(t, after), n)
	}
}

// P3.7
func TestListLaws(t *testing.T) {
	r := rand.New(rand.NewSource(4))
	for range 300 {
		a, b, c := drawList(t, r, 3), drawList(t, r, 3), drawList(t, r, 3)
		ab, bc := apply(t, "join", a, b), apply(t, "join", b, c)
		if !term.Same(apply(t, "join", ab, c), apply(t, "join", a, bc)) {
			t.Fatal("join", text(t, a), text(t, b), text(t, c))
		}
		if apply(t, "length", ab).N != apply(t, "length", a).N+apply(t, "length", b).N {
			t.Fatal("length", text(t, a), text(t, b))
		}
	}
}

// P3.8
func TestPlainResults(t *testing.T) {
	r := rand.New(rand.NewSource(5))
	numbers := integers()
	drawn := func(sort string) api.Term {
		switch sort {
		case "Int":
			return numbers[r.Intn(len(numbers))]
		case "Bool":
			return truth(r.Intn(2))
		case "Text":
			return str([]string{"", "a", "Int", "Exp", letters(120)}[r.Intn(5)])
		case "List":
			return drawList(t, r, 3)
		case "Map":
			return drawMap(t, r, 3)
		}
		return []api.Term{drawKey(r), draw(t, r, 3)}[r.Intn(2)]
	}
	for _, name := range value.Names() {
		args, _ := value.Args(name)
		result, _ := value.Result(name)
		given := 0
		for range 200 {
			var l []api.Term
			for _, sort := range args {
				l = append(l, drawn(sort))
			}
			x, e := value.Apply(base(), name, l)
			if e != api.OK {
				continue
			}
			given++
			sort, _ := term.Sort(base(), x)
			if fits, _ := sorts.AtMost(base(), sort, result); !fits || !term.Plain(base(), x) {
				t.Fatal(name, l, x)
			}
		}
		if given < 10 {
			t.Error(name, "has few results:", given)
		}
	}
}
