package term_test

import (
	"slices"
	"strconv"
	"strings"
	"testing"

	"voussoir/api"
	"voussoir/term"
)

// wantValid says of terms whether they are well formed, by themselves and within others.
func wantValid(t *testing.T, want bool, terms ...api.Term) {
	t.Helper()
	for i, x := range terms {
		for place, y := range []api.Term{x, list(whole(1), x), app("f", x), table(whole(1), x), table(x, whole(1))} {
			if got := term.Valid(y); got != want {
				t.Errorf("number %d, place %d: Valid of %.200v is %v", i, place, strconv.Quote(x.Text), got)
			}
		}
	}
}

// P2.1: one of each
func TestValid(t *testing.T) {
	if !term.Valid(everything()) {
		t.Error("everything")
	}
	for i, x := range illFormed() {
		if term.Valid(x) {
			t.Error("ill formed", i)
		}
	}
}

// P2.1: the kinds that there are
func TestValidKind(t *testing.T) {
	wantValid(t, false, api.Term{}, api.Term{Kind: -1}, api.Term{Kind: 9}, api.Term{Kind: 9, N: 1, Text: "a"}, api.Term{Kind: 1 << 40})
}

// P2.1: KInt and KBool
func TestValidNumbers(t *testing.T) {
	wantValid(t, true, whole(0), whole(1), whole(-1), whole(api.MaxInt), whole(-api.MaxInt), truth(0), truth(1))
	wantValid(t, false, whole(api.MaxInt+1), whole(-api.MaxInt-1), whole(1<<62), whole(-1<<63), truth(2), truth(-1))
}

// P2.1: KText
func TestValidStrings(t *testing.T) {
	wantValid(t, true, str(""), str(" "), str("a b"), str("'~!{}|"), str(letters(200)), str("// no comment"))
	wantValid(t, false, str(letters(201)), str(letters(1<<20)), str("a\n"), str("é"), str("a\xff"), str("\u2028"))
	for c := range 256 {
		allowed := c >= 32 && c <= 126 && c != '"' && c != '\\'
		wantValid(t, allowed, str(string([]byte{'a', byte(c), 'b'})))
	}
}

// P2.1: KId
func TestValidIds(t *testing.T) {
	wantValid(t, true, id("a"), id("z"), id("aB_9"), id("truex"), id("fals"), id("if"), id("language"), id("add"), id(letters(api.MaxName)))
	wantValid(t, false, id(""), id("A"), id("Z"), id("X1"), id("true"), id("false"), id("_"), id("_a"), id("$"), id("1a"), id("a b"), id("a'1"), id("'a"), id("`"), id("{"), id("é"), id(letters(api.MaxName+1)))
}

// P2.1: KApp
func TestValidApplications(t *testing.T) {
	wantValid(t, true, app("f"), app("F"), app("f", ones(8)...), app("add", whole(1)), app("true"), app("f_1"), app(letters(api.MaxName)), app("f'1"), app("f'8", whole(1)), app("add'1"), app(letters(api.MaxName)+"'8"))
	wantValid(t, false, app("f", ones(9)...), app(""), app("_"), app("$"), app("1"), app("f g"), app(letters(api.MaxName+1)), app("f'"), app("f'0"), app("f'9"), app("f'a"), app("f'10"), app("f'1'1"), app("'1"), app("'"), app("_'1"), app(letters(api.MaxName+1)+"'1"))
}

// P2.1: KVar
func TestValidVariables(t *testing.T) {
	wantValid(t, true, variable("X", "Int"), variable("x", "Any"), variable("X", "Nothing"), variable("true", "false"), variable("_", "Any"), variable("$", "Any"), variable(letters(api.MaxName), letters(api.MaxName)))
	wantValid(t, false, variable("", "Int"), variable("X", ""), variable("_", "Int"), variable("$", "Pgm"), variable("_", ""), variable("$", ""), variable("X", "_"), variable("X", "$"), variable("X'1", "Int"), variable("X", "Int'1"), variable("__", "Any"), variable("$$", "Any"), variable("_X", "Any"), variable("$X", "Any"), variable("1", "Int"), variable(letters(api.MaxName+1), "Int"), variable("X", letters(api.MaxName+1)))
}

// P2.1: KList and KMap
func TestValidParts(t *testing.T) {
	wantValid(t, true, list(), list(list()), many(20), table(), table(list(), table()), table(whole(1), whole(2), whole(1), whole(3)), table(variable("X", "Int"), whole(1)), table(ones(20)...))
	wantValid(t, false, table(whole(1)), table(whole(1), whole(2), whole(3)), table(ones(21)...))
	wantValid(t, false, list(api.Term{}), list(whole(1), id("A")), table(whole(1), id("A")), table(id("A"), whole(1)))
}

// P2.1: a Rest
func TestValidRest(t *testing.T) {
	rests := func(x api.Term, rest ...api.Term) api.Term {
		x.Rest = rest
		return x
	}
	wantValid(t, true, with(list(), "L"), with(list(whole(1)), "l"), with(table(), "M"), with(table(whole(1), whole(2)), "m"), rests(list()), with(list(variable("L", "Int")), "L"))
	wantValid(t, false,
		with(list(), "_"), with(list(), "$"), with(list(), ""), with(table(), "_"), with(table(), "$"), with(list(), "L'1"), with(list(), letters(api.MaxName+1)),
		rests(list(), variable("L", "Map")), rests(table(), variable("M", "List")), rests(list(), variable("L", "Any")), rests(table(), variable("M", "Any")), rests(list(), variable("_", "Any")), rests(list(), variable("L", "")),
		rests(list(), variable("L", "List"), variable("K", "List")), rests(list(), list()), rests(table(), table()), rests(list(), id("l")),
		rests(list(), api.Term{Kind: api.KId, Text: "l", Sort: "List"}),
		rests(list(), api.Term{Kind: api.KVar, Text: "L", Sort: "List", N: 1}),
		rests(list(), api.Term{Kind: api.KVar, Text: "L", Sort: "List", Kids: ones(1)}),
		rests(table(), api.Term{Kind: api.KVar, Text: "M", Sort: "Map", Rest: []api.Term{variable("M", "Map")}}),
	)
}

// P2.1: the fields that a kind does not use
func TestValidUnusedFields(t *testing.T) {
	const n, txt, sort, kids, rest = 1, 2, 4, 8, 16
	for _, x := range []struct {
		term api.Term
		used int
	}{
		{whole(0), n}, {truth(0), n}, {str("a"), txt}, {id("a"), txt}, {app("f"), txt | kids},
		{variable("X", "Int"), txt | sort}, {variable("_", "Any"), txt | sort}, {variable("$", "Any"), txt | sort}, {list(), kids | rest}, {table(), kids | rest},
	} {
		for _, field := range []int{n, txt, sort, kids, rest} {
			y := x.term
			switch {
			case x.used&field != 0:
				continue
			case field == n:
				y.N = 1
			case field == txt:
				y.Text = "a"
			case field == sort:
				y.Sort = "Any"
			case field == kids:
				y.Kids = ones(2)
			default:
				y.Rest = []api.Term{variable("L", "List")}
			}
			wantValid(t, false, y)
		}
		empty := x.term
		empty.Kids, empty.Rest = []api.Term{}, []api.Term{}
		wantValid(t, true, x.term, empty)
	}
}

// P2.1: at most MaxSize nodes
func TestValidSize(t *testing.T) {
	half := many(api.MaxSize/2 - 2)
	for _, x := range []struct {
		term api.Term
		want bool
	}{
		{many(api.MaxSize - 1), true},
		{many(api.MaxSize), false},
		{with(many(api.MaxSize-2), "L"), true},
		{with(many(api.MaxSize-1), "L"), false},
		{app("f", half, half), true},
		{app("f", half, half, whole(1), whole(1)), false},
		{table(ones(api.MaxSize - 2)...), true},
		{table(ones(api.MaxSize)...), false},
	} {
		if got := term.Valid(x.term); got != x.want {
			t.Error(len(x.term.Kids), got)
		}
	}
}

// P2.1: nested at most MaxNest deep
func TestValidDepth(t *testing.T) {
	applied := whole(1)
	for range api.MaxNest - 1 {
		applied = app("f", whole(1), applied)
	}
	keyed := whole(1)
	for range api.MaxNest - 1 {
		keyed = table(keyed, whole(1))
	}
	for i, x := range []struct {
		term api.Term
		want bool
	}{
		{nested(api.MaxNest-1, whole(1)), true},
		{nested(api.MaxNest, whole(1)), false},
		{nested(api.MaxNest-1, list()), true},
		{nested(api.MaxNest-2, with(list(), "L")), true},
		{nested(api.MaxNest-1, with(list(), "L")), false},
		{applied, true},
		{list(applied), false},
		{keyed, true},
		{list(keyed), false},
	} {
		if got := term.Valid(x.term); got != x.want {
			t.Error(i, got)
		}
	}
}

// Rule 1: terms of any size. What is not well formed is refused soon.
func TestHuge(t *testing.T) {
	ring := list(whole(1))
	ring.Kids[0] = ring
	kids := make([]api.Term, 1<<20)
	for i, x := range []api.Term{
		{Kind: api.KList, Kids: kids},
		{Kind: api.KApp, Text: "f", Kids: kids},
		{Kind: api.KInt, Kids: kids},
		{Kind: api.KList, Rest: slices.Repeat([]api.Term{variable("L", "List")}, 1<<20)},
		nested(1<<16, whole(1)),
		shared(59),
		ring,
		str(strings.Repeat(" ", 1<<20)),
		app(letters(1 << 20)),
		variable("X", letters(1<<20)),
	} {
		if term.Valid(x) || term.Fits(base(), x) || term.Plain(base(), x) {
			t.Error("valid:", i)
		}
		if _, e := term.Size(x); e != api.ErrArg {
			t.Error("size", i, e)
		}
		if _, e := term.Text(x); e != api.ErrArg {
			t.Error("text", i, e)
		}
		if _, e := term.Compare(x, whole(1)); e != api.ErrArg {
			t.Error("compare", i, e)
		}
		if _, e := term.With(list(whole(1)), []int{0}, x); e != api.ErrArg {
			t.Error("with", i, e)
		}
	}
	if deep := nested(1<<16, whole(1)); !term.Same(deep, nested(1<<16, whole(1))) || term.Same(deep, nested(1<<16, whole(2))) {
		t.Error("same")
	}
}
