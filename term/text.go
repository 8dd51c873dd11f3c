package term

import (
	"strconv"
	"strings"

	"voussoir/api"
)

// writer writes well formed terms as definitions have them.
type writer struct{ strings.Builder }

func (w *writer) term(t api.Term) {
	switch t.Kind {
	case api.KInt:
		w.WriteString(strconv.Itoa(t.N))
	case api.KBool:
		w.WriteString(strconv.FormatBool(t.N == 1))
	case api.KText:
		w.WriteString(`"` + t.Text + `"`)
	case api.KId:
		w.WriteString("'" + t.Text)
	case api.KApp:
		w.WriteString(t.Text + "(")
		w.kids(t.Kids)
		w.WriteString(")")
	case api.KVar:
		w.variable(t)
	case api.KList:
		w.WriteString("[")
		w.kids(t.Kids)
		w.rest(t)
		w.WriteString("]")
	case api.KMap:
		w.WriteString("{")
		w.entries(t.Kids)
		w.rest(t)
		w.WriteString("}")
	}
}

func (w *writer) variable(t api.Term) {
	w.WriteString(t.Text)
	if !isUnnamed(t.Text) {
		w.WriteString(":" + t.Sort)
	}
}

func (w *writer) kids(list []api.Term) {
	for i, kid := range list {
		if i > 0 {
			w.WriteString(", ")
		}
		w.term(kid)
	}
}

func (w *writer) entries(list []api.Term) {
	for i := 0; i < len(list); i += 2 {
		if i > 0 {
			w.WriteString(", ")
		}
		w.term(list[i])
		w.WriteString(" -> ")
		w.term(list[i+1])
	}
}

func (w *writer) rest(t api.Term) {
	for _, variable := range t.Rest {
		if len(t.Kids) > 0 {
			w.WriteString(" ")
		}
		w.WriteString("| " + variable.Text)
	}
}
