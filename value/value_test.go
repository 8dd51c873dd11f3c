package value_test

import (
	"slices"
	"strings"
	"testing"

	"voussoir/api"
	"voussoir/value"
)

// builtIn returns the table of chapter 3.
func builtIn() []api.Op {
	var ops []api.Op
	add := func(names, result string, args ...string) {
		for _, name := range strings.Fields(names) {
			ops = append(ops, api.Op{Name: name, Args: args, Sort: result})
		}
	}
	add("add sub mul div mod", "Int", "Int", "Int")
	add("neg", "Int", "Int")
	add("lt le gt ge", "Bool", "Int", "Int")
	add("eq ne", "Bool", "Any", "Any")
	add("and or", "Bool", "Bool", "Bool")
	add("not", "Bool", "Bool")
	add("pick", "Any", "Bool", "Any", "Any")
	add("cat", "Text", "Text", "Text")
	add("length", "Int", "List")
	add("text", "Text", "Int")
	add("join", "List", "List", "List")
	add("get", "Any", "Map", "Any")
	add("put", "Map", "Map", "Any", "Any")
	add("has", "Bool", "Map", "Any")
	add("del", "Map", "Map", "Any")
	add("keys", "List", "Map")
	add("size", "Int", "Map")
	add("is", "Bool", "Any", "Text")
	add("isvalue", "Bool", "Any")
	return ops
}

// others returns names that are not those of built-in functions.
func others() []string {
	return []string{"", "Add", "ADD", "plus", "len", "if", "add'1", "add ", " add", "ad", "adds", "values", "Int", letters(api.MaxText + 1), "\xff"}
}

// P3.1
func TestBuiltIn(t *testing.T) {
	for _, f := range builtIn() {
		args, e := value.Args(f.Name)
		result, e2 := value.Result(f.Name)
		if !value.Is(f.Name) || !slices.Equal(args, f.Args) || result != f.Sort || e != api.OK || e2 != api.OK {
			t.Error(f.Name, value.Is(f.Name), args, result, e, e2)
		}
	}
	for _, name := range others() {
		args, e := value.Args(name)
		result, e2 := value.Result(name)
		if value.Is(name) || len(args) != 0 || result != "" || e != api.ErrNone || e2 != api.ErrNone {
			t.Error(name, value.Is(name), args, result, e, e2)
		}
	}
}

// P3.3
func TestNames(t *testing.T) {
	var want []string
	for _, f := range builtIn() {
		want = append(want, f.Name)
	}
	slices.Sort(want)
	if got := value.Names(); !slices.Equal(got, want) {
		t.Error(got)
	}
}

// P3.1, P3.3: no result shares memory with another one.
func TestOwnNames(t *testing.T) {
	names := value.Names()
	args, _ := value.Args("put")
	names[0], args[0] = "spoilt", "spoilt"
	if again := value.Names(); again[0] != "add" {
		t.Error(again)
	}
	if again, _ := value.Args("put"); again[0] != "Map" {
		t.Error(again)
	}
}
