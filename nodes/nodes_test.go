package nodes_test

import (
	"strconv"
	"strings"
	"testing"

	"voussoir/api"
	"voussoir/nodes"
	"voussoir/term"
)

// sample returns the term {1 -> [true | L], 'a -> X:Int | M}. It is new memory at each call.
func sample() api.Term {
	return api.Term{
		Kind: api.KMap,
		Kids: []api.Term{
			{Kind: api.KInt, N: 1},
			{Kind: api.KList, Kids: []api.Term{{Kind: api.KBool, N: 1}}, Rest: []api.Term{{Kind: api.KVar, Text: "L", Sort: "List"}}},
			{Kind: api.KId, Text: "a"},
			{Kind: api.KVar, Text: "X", Sort: "Int"},
		},
		Rest: []api.Term{{Kind: api.KVar, Text: "M", Sort: "Map"}},
	}
}

// visited returns the kinds of the nodes that are visited, with their levels, up to so many.
func visited(t api.Term, most int) (string, bool) {
	var all []string
	whole := nodes.Visit(t, func(node api.Term, level int) bool {
		all = append(all, strconv.Itoa(int(node.Kind))+"@"+strconv.Itoa(level))
		return len(all) < most
	})
	return strings.Join(all, " "), whole
}

func TestVisit(t *testing.T) {
	const want = "8@1 1@2 7@2 2@3 6@3 4@2 6@2 6@2"
	if got, whole := visited(sample(), 9); got != want || !whole {
		t.Error(got, whole)
	}
	for n := 1; n <= 8; n++ {
		if got, whole := visited(sample(), n); got != strings.Join(strings.Fields(want)[:n], " ") || whole {
			t.Error(n, got, whole)
		}
	}
}

func TestClone(t *testing.T) {
	x := sample()
	y := nodes.Clone(x)
	if !term.Same(x, y) {
		t.Error(y)
	}
	for _, part := range [][]api.Term{y.Kids[1].Kids, y.Kids[1].Rest, y.Kids, y.Rest} {
		part[0] = api.Term{}
	}
	if !term.Same(x, sample()) {
		t.Error("a clone shares memory:", x)
	}
}

func TestEach(t *testing.T) {
	x := sample()
	changed := nodes.Each(x.Kids, func(t api.Term) api.Term { t.N++; return t })
	if len(changed) != 4 || changed[0].N != 2 || changed[2].N != 1 || !term.Same(x, sample()) {
		t.Error(changed, x)
	}
	if len(nodes.Each(nil, nodes.Clone)) != 0 {
		t.Error("of none there are some")
	}
}

// Of well formed terms it is the order that package term has.
func TestCompare(t *testing.T) {
	l := append(sample().Kids, sample(), sample().Rest[0], api.Term{Kind: api.KMap}, api.Term{Kind: api.KInt, N: -1}, api.Term{Kind: api.KText})
	for _, a := range l {
		for _, b := range l {
			if want, e := term.Compare(a, b); e != api.OK || nodes.Compare(a, b) != want {
				t.Error(a, b, nodes.Compare(a, b), want, e)
			}
		}
	}
}

func TestIsKey(t *testing.T) {
	for kind := api.Kind(0); kind <= 9; kind++ {
		want := kind == api.KInt || kind == api.KText || kind == api.KId
		if nodes.IsKey(api.Term{Kind: kind}) != want {
			t.Error(kind)
		}
	}
}
