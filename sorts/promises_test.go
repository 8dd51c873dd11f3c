package sorts_test

import (
	"maps"
	"math/rand"
	"slices"
	"testing"

	"voussoir/api"
	"voussoir/sorts"
)

// signatures returns base's, and others that are drawn; the same ones at each call.
func signatures() []api.Sig {
	r := rand.New(rand.NewSource(1))
	list := []api.Sig{base(), {}}
	for range 30 {
		list = append(list, drawn(r))
	}
	return list
}

// drawn returns a valid signature of sorts: a sort is below some of those before it.
func drawn(r *rand.Rand) api.Sig {
	given := []string{"Int", "Bool", "Text", "Id", "List", "Map"}
	s := api.Sig{Sorts: sortNames(1 + r.Intn(8))}
	r.Shuffle(len(s.Sorts), func(i, j int) { s.Sorts[i], s.Sorts[j] = s.Sorts[j], s.Sorts[i] })
	for i, high := range s.Sorts {
		for _, low := range slices.Concat(s.Sorts[i+1:], given) {
			if r.Intn(4) == 0 {
				s.Below = append(s.Below, api.Below{Low: low, High: high})
			}
		}
	}
	r.Shuffle(len(s.Below), func(i, j int) { s.Below[i], s.Below[j] = s.Below[j], s.Below[i] })
	for _, name := range allSorts(s) {
		if r.Intn(6) == 0 {
			s.Values = append(s.Values, name)
		}
	}
	return s
}

// relation returns which sorts are at most which, calculated in another way: pairs are added until nothing is new.
func relation(s api.Sig) map[[2]string]bool {
	at := map[[2]string]bool{}
	all := allSorts(s)
	for _, a := range all {
		at[[2]string{a, a}], at[[2]string{a, "Any"}] = true, true
	}
	for _, b := range s.Below {
		at[[2]string{b.Low, b.High}] = true
	}
	for _, b := range all {
		for _, a := range all {
			for _, c := range all {
				if at[[2]string{a, b}] && at[[2]string{b, c}] {
					at[[2]string{a, c}] = true
				}
			}
		}
	}
	return at
}

// asked returns which sorts AtMost says are at most which.
func asked(t *testing.T, s api.Sig) map[[2]string]bool {
	t.Helper()
	at := map[[2]string]bool{}
	for _, a := range allSorts(s) {
		for _, b := range allSorts(s) {
			yes, e := sorts.AtMost(s, a, b)
			if e != api.OK {
				t.Fatal(s, a, b, e)
			}
			if yes {
				at[[2]string{a, b}] = true
			}
		}
	}
	return at
}

// P1.2: AtMost and Meet are what DOC says.
func TestAtMostIsWhatIsDeclared(t *testing.T) {
	for _, s := range signatures() {
		want := relation(s)
		for _, a := range allSorts(s) {
			for _, b := range allSorts(s) {
				if got, e := sorts.AtMost(s, a, b); got != want[[2]string{a, b}] || e != api.OK {
					t.Fatal("AtMost", s, a, b, got, e)
				}
				if got, e := sorts.Meet(s, a, b); got != (want[[2]string{a, b}] || want[[2]string{b, a}]) || e != api.OK {
					t.Fatal("Meet", s, a, b, got, e)
				}
			}
		}
	}
}

// P1.8
func TestOrder(t *testing.T) {
	for _, s := range signatures() {
		at := asked(t, s)
		all := allSorts(s)
		for _, a := range all {
			if !at[[2]string{a, a}] || !at[[2]string{a, "Any"}] {
				t.Fatal("not reflexive, or not at most Any:", s, a)
			}
			for _, b := range all {
				if a != b && at[[2]string{a, b}] && at[[2]string{b, a}] {
					t.Fatal("not antisymmetric:", s, a, b)
				}
				for _, c := range all {
					if at[[2]string{a, b}] && at[[2]string{b, c}] && !at[[2]string{a, c}] {
						t.Fatal("not transitive:", s, a, b, c)
					}
				}
			}
		}
	}
}

// P1.9, and P1.4: Above and Under are the sets of AtMost, rising.
func TestSets(t *testing.T) {
	for _, s := range signatures() {
		at := asked(t, s)
		for _, a := range allSorts(s) {
			above, e := sorts.Above(s, a)
			under, f := sorts.Under(s, a)
			if e != api.OK || f != api.OK || !slices.IsSorted(above) || !slices.IsSorted(under) {
				t.Fatal(s, a, above, e, under, f)
			}
			for _, b := range allSorts(s) {
				back, e := sorts.Under(s, b)
				if e != api.OK || slices.Contains(above, b) != slices.Contains(back, a) {
					t.Fatal("Above and Under:", s, a, b)
				}
				if slices.Contains(above, b) != at[[2]string{a, b}] || slices.Contains(under, b) != at[[2]string{b, a}] {
					t.Fatal("AtMost:", s, a, b)
				}
			}
		}
	}
}

// P1.10
func TestValues(t *testing.T) {
	for _, s := range signatures() {
		at := asked(t, s)
		for _, a := range allSorts(s) {
			want := slices.ContainsFunc(s.Values, func(v string) bool { return at[[2]string{a, v}] })
			got, e := sorts.Value(s, a)
			if got != want || e != api.OK {
				t.Fatal(s, a, got, e)
			}
			for _, b := range allSorts(s) {
				if low, _ := sorts.Value(s, b); got && at[[2]string{b, a}] && !low {
					t.Fatal("what is at most a value is one:", s, b, a)
				}
			}
		}
	}
}

// P1.11
func TestRenamed(t *testing.T) {
	for _, s := range signatures()[:6] {
		at := asked(t, s)
		names := append([]string{"New", "plus", "len", "Int", "add"}, s.Sorts...)
		for i, a := range names {
			for _, b := range names[i:] {
				there, e := sorts.Rename(s, a, b)
				if e == api.ErrTwice {
					continue
				}
				back, f := sorts.Rename(there, a, b)
				if e != api.OK || f != api.OK || !sorts.Same(back, s) {
					t.Fatal("twice:", s, a, b, e, f)
				}
				if !maps.Equal(asked(t, there), exchanged(s, at, a, b)) {
					t.Fatal("AtMost:", s, a, b)
				}
			}
		}
	}
}

// exchanged returns the relation with the names of declared sorts exchanged.
func exchanged(s api.Sig, at map[[2]string]bool, a, b string) map[[2]string]bool {
	name := func(sort string) string {
		switch {
		case !slices.Contains(s.Sorts, sort):
			return sort
		case sort == a:
			return b
		case sort == b:
			return a
		}
		return sort
	}
	renamed := map[[2]string]bool{}
	for pair := range at {
		renamed[[2]string{name(pair[0]), name(pair[1])}] = true
	}
	return renamed
}

// Rule 1: there are far more ways from the first of these sorts to the last than could be gone one by one.
func TestManyWays(t *testing.T) {
	s := api.Sig{Sorts: sortNames(api.MaxSorts)}
	for i := range s.Sorts {
		for j := i + 1; j < min(i+6, len(s.Sorts)) && len(s.Below) < 200; j++ {
			s.Below = append(s.Below, api.Below{Low: s.Sorts[i], High: s.Sorts[j]})
		}
	}
	first, last := s.Sorts[0], s.Sorts[len(s.Sorts)-1]
	if got, e := sorts.AtMost(s, first, last); !got || e != api.OK {
		t.Error(got, e)
	}
	if got, e := sorts.AtMost(s, last, first); got || e != api.OK {
		t.Error(got, e)
	}
	if got, e := sorts.Above(s, first); len(got) != api.MaxSorts+1 || e != api.OK {
		t.Error(got, e)
	}
}
