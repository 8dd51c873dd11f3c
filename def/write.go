package def

import (
	"strconv"
	"strings"

	"voussoir/api"
	"voussoir/term"
)

// writer writes well formed definitions, as far as they are not too long.
type writer struct {
	strings.Builder
	tooLong bool
}

func (w *writer) put(all ...string) {
	for _, s := range all {
		w.tooLong = w.tooLong || w.Len()+len(s) > api.MaxText
		if !w.tooLong {
			w.WriteString(s)
		}
	}
}

func (w *writer) term(t api.Term) {
	s, e := term.Text(t)
	w.tooLong = w.tooLong || e != api.OK
	w.put(s)
}

// row writes elements with a string between two.
func row[T any](w *writer, between string, list []T, write func(x T)) {
	for i, x := range list {
		if i > 0 {
			w.put(between)
		}
		write(x)
	}
}

// item writes an item of some elements, if there are any.
func item[T any](w *writer, word string, list []T, write func(x T)) {
	if len(list) == 0 {
		return
	}
	w.put(word, " ")
	row(w, ", ", list, write)
	w.put(".\n")
}

// items writes an item of each element.
func items[T any](w *writer, word string, list []T, write func(x T)) {
	for _, x := range list {
		item(w, word, []T{x}, write)
	}
}

// named writes an item of a name, if there is one.
func (w *writer) named(word, name string) {
	if name != "" {
		w.put(word, " ", name, ".\n")
	}
}

func (w *writer) definition(d api.Def) {
	name := func(name string) { w.put(name) }
	w.named("language", d.Name)
	item(w, "sort", d.Sig.Sorts, name)
	items(w, "subsort", d.Sig.Below, func(b api.Below) { w.put(b.Low, " < ", b.High) })
	item(w, "value", d.Sig.Values, name)
	items(w, "op", d.Sig.Ops, w.op)
	items(w, "fun", d.Sig.Funs, w.op)
	items(w, "let", d.Eqs, w.eq)
	items(w, "cell", d.Once, w.cell)
	w.many(d)
	w.named("start", d.Start)
	w.named("watch", d.Watch)
	items(w, "rule", d.Rules, w.rule)
}

// op writes an operator or a function.
func (w *writer) op(op api.Op) {
	w.put(op.Name, " :")
	for _, piece := range op.Pieces {
		w.piece(piece)
	}
	if len(op.Pieces) == 0 {
		for _, arg := range op.Args {
			w.put(" ", arg)
		}
	}
	w.put(" -> ", op.Sort)
	w.attrs(op)
}

func (w *writer) piece(p api.Piece) {
	if p.Sort != "" {
		w.put(" ", p.Sort)
	} else {
		w.put(` "`, p.Text, `"`)
	}
}

func (w *writer) attrs(op api.Op) {
	if op.Prec > 0 {
		w.put(" prec ", strconv.Itoa(op.Prec))
	}
	switch op.Assoc {
	case api.AssocLeft:
		w.put(" left")
	case api.AssocRight:
		w.put(" right")
	}
	if len(op.Strict) > 0 {
		w.put(" strict(")
		row(w, ", ", op.Strict, func(n int) { w.put(strconv.Itoa(n)) })
		w.put(")")
	}
}

func (w *writer) eq(eq api.Eq) {
	w.term(eq.Left)
	w.put(" = ")
	w.term(eq.Right)
	w.conditions(eq.If)
}

func (w *writer) conditions(list []api.Term) {
	if len(list) > 0 {
		w.put(" if ")
		row(w, ", ", list, w.term)
	}
}

func (w *writer) cell(c api.Cell) {
	w.put(c.Name, " : ", c.Sort, " = ")
	w.term(c.Init)
}

func (w *writer) many(d api.Def) {
	if d.Kind != "" {
		w.put("many ", d.Kind, "(")
		row(w, ", ", d.Many, w.cell)
		w.put(").\n")
	}
}

// rule writes the parts in the order that all rules have: what is read may have another one.
func (w *writer) rule(r api.Rule) {
	var parts []func()
	for _, part := range r.Parts {
		parts = append(parts, func() { w.part(part) })
	}
	for _, fresh := range r.New {
		parts = append(parts, func() { w.fresh(fresh) })
	}
	for _, name := range r.Drop {
		parts = append(parts, func() { w.put("drop@", name) })
	}
	w.put(r.Name, " : ")
	row(w, "; ", parts, func(part func()) { part() })
	w.conditions(r.If)
}

func (w *writer) part(p api.Part) {
	w.put(p.Cell)
	if p.At != "" {
		w.put("@", p.At)
	}
	w.put(" : ")
	w.term(p.Left)
	for _, right := range p.Right {
		w.put(" => ")
		w.term(right)
	}
}

func (w *writer) fresh(f api.Fresh) {
	w.put("new(")
	row(w, ", ", f.Cells, w.term)
	w.put(")")
}
