package def_test

import (
	"reflect"
	"strings"
	"testing"

	"voussoir/api"
	"voussoir/def"
)

// renamed returns a definition with two names exchanged.
func renamed(t testing.TB, d api.Def, a, b string) api.Def {
	t.Helper()
	r, e := def.Rename(d, a, b)
	if e != api.OK {
		t.Fatal(a, b, e)
	}
	return r
}

// everywhere has the name N wherever a name stands, and the name O as well, and where none is meant an identifier or a string of the same letters.
const everywhere = `language N.
sort N, O.
subsort N < O.
subsort O < N.
value N, O.
op N : N O -> N.
op O : "N" N "O" O -> O prec 1 left strict(1).
fun N : N O -> N.
fun O : -> O.
let N(N:N, O:O) = [N:O, 'n, "N" | N] if O('o, {N() -> "O" | O}), {| N}.
cell N : O = N($, _, 'n).
cell O : N = O().
many N(O : N = N(), N : O = O()).
start N.
watch O.
rule N : N@O : N() => O(); O@N : [| N] => {| O}; O : _; new(N(), O()); new(O:N); drop@N; drop@O if N:N, O(N:O).
rule O : O@O : O().
`

// P6.5: all that is named, and nothing else
func TestRename(t *testing.T) {
	d := parsed(t, everywhere)
	swapped := strings.NewReplacer("'n", "'n", "'o", "'o", `"N"`, `"N"`, `"O"`, `"O"`, "N", "O", "O", "N").Replace(everywhere)
	fresh := strings.NewReplacer("'n", "'n", `"N"`, `"N"`, "N", "new_name").Replace(everywhere)
	for _, x := range []struct{ a, b, want string }{
		{"N", "O", swapped}, {"O", "N", swapped}, {"N", "new_name", fresh}, {"new_name", "N", fresh},
		{"N", "N", everywhere}, {"a", "b", everywhere}, {"n", "o", everywhere}, {"n", "n", everywhere},
	} {
		if got := text(t, renamed(t, d, x.a, x.b)); got != x.want {
			t.Errorf("%s and %s:\n%s\ninstead of\n%s", x.a, x.b, got, x.want)
		}
	}
	if other := renamed(t, d, "language_", "n"); !def.Same(other, d) {
		t.Error(other)
	}
}

// P6.5: what is not named is as it was: also lines and columns, numbers, and the sorts of Rests, of _ and of $.
func TestRenameStays(t *testing.T) {
	d := parsed(t, full)
	for _, name := range []string{"full", "A", "B", "nil", "pair", "loop", "minus", "both", "f", "g", "k", "e", "t", "c", "d", "r", "s", "i", "j", "X", "K", "L", "M", "x", "two", "words"} {
		r := renamed(t, d, name, "free_name")
		if !def.Valid(r) || def.Same(r, d) != (name == "x" || name == "two" || name == "words") {
			t.Error(name, r)
		}
		if back := renamed(t, r, "free_name", name); !reflect.DeepEqual(back, d) {
			t.Errorf("%s: %+v\ninstead of\n%+v", name, back, d)
		}
	}
	// Names that are no definition's to give a meaning may stand in it.
	s := "language e.\nop add : Int -> Any.\nfun eq : -> Map.\nlet get(eq:List) = add(if_:Text).\n"
	if got := text(t, renamed(t, parsed(t, s), "if_", "e")); got != strings.NewReplacer("language e", "language if_", "if_:", "e:").Replace(s) {
		t.Error(got)
	}
}

// P6.5: names that cannot be exchanged, and definitions that are not well formed
func TestRenameErrors(t *testing.T) {
	wantError := func(d api.Def, a, b string) {
		t.Helper()
		if r, e := def.Rename(d, a, b); e != api.ErrArg || !reflect.DeepEqual(r, api.Def{}) {
			t.Errorf("%q, %q: %v, %+v", a, b, e, r)
		}
	}
	bad := append(badNames(), strings.Fields("Any Int Bool Text Id List Map add sub mul div mod neg lt le gt ge eq ne and or not pick cat length text join get put has del keys size is isvalue")...)
	for _, name := range bad {
		wantError(parsed(t, full), name, "A")
		wantError(parsed(t, full), "A", name)
		wantError(parsed(t, full), name, name)
	}
	for _, d := range illFormed(t) {
		wantError(d, "A", "B")
	}
	for _, name := range []string{"True", "If", "Add", "int", "any", "adds", letters(api.MaxName)} {
		renamed(t, parsed(t, full), "A", name)
	}
}

// Rule 3: no argument is changed, and no memory shared.
func TestRenameMemory(t *testing.T) {
	for _, b := range []string{"B", "A", "free"} {
		d := parsed(t, full)
		r := renamed(t, d, "A", b)
		if !reflect.DeepEqual(d, parsed(t, full)) {
			t.Fatal("the argument is changed:", d)
		}
		fields, _ := spots(reflect.ValueOf(&r).Elem())
		for _, field := range fields {
			field.SetZero()
		}
		if !reflect.DeepEqual(d, parsed(t, full)) {
			t.Fatal("the result shares memory with the argument:", d)
		}
	}
}

// Rule 3: two results of Parse, and two slices of one, share no memory.
func TestParseMemory(t *testing.T) {
	d := parsed(t, full)
	d.Sig.Ops[2].Args[0] = "changed"
	if d.Sig.Ops[2].Pieces[1].Sort != "A" {
		t.Error(d.Sig.Ops[2])
	}
	fields, slicesOf := spots(reflect.ValueOf(&d).Elem())
	seen := map[uintptr]bool{}
	for _, s := range slicesOf {
		if s.Len() == 0 {
			continue
		}
		if seen[s.Pointer()] {
			t.Error("shared:", s)
		}
		seen[s.Pointer()] = true
		if s.Cap() > s.Len() {
			s.Slice(s.Len(), s.Cap()).Index(0).SetZero() // what stands behind it belongs to no other one
		}
	}
	for _, field := range fields {
		field.SetZero()
	}
	parsed(t, full)
}
