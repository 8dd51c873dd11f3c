package def

import "voussoir/api"

// termReader reads one term, with all that is in it.
type termReader struct {
	*reader
	first api.Token // of the whole term
	size  int       // how many nodes have begun
}

func (r *reader) term() api.Term {
	t := termReader{reader: r, first: r.next()}
	return t.part(1)
}

// isTerm reports whether the next token can begin a term.
func (r *reader) isTerm() bool {
	t := r.next()
	switch t.Kind {
	case api.TokName:
		return !isReserved(t.Text) || t.Text == "true" || t.Text == "false"
	case api.TokSign:
		switch t.Text {
		case "-", "'", "_", "[", "{", "$":
			return true
		}
		return false
	}
	return true
}

// part returns a term, at a level of the whole one.
func (r *termReader) part(level int) api.Term {
	r.begin(level)
	return r.body(level)
}

// begin looks whether a term can begin with the next token.
func (r *termReader) begin(level int) {
	r.want(r.isTerm())
	r.node(level)
}

// node counts a node, which begins with the next token.
func (r *termReader) node(level int) {
	if level > api.MaxNest {
		r.fail(api.ErrDeep)
	}
	r.size++
	if r.size > api.MaxSize {
		failLimit(r.first)
	}
}

// body returns a term that has begun.
func (r *termReader) body(level int) api.Term {
	t := r.take()
	switch t.Kind {
	case api.TokInt:
		return api.Term{Kind: api.KInt, N: t.N}
	case api.TokText:
		return api.Term{Kind: api.KText, Text: t.Text}
	case api.TokName:
		return r.named(t.Text, level)
	}
	switch t.Text {
	case "-":
		return r.negative(t)
	case "'":
		return r.identifier()
	case "[":
		return r.list(level)
	case "{":
		return r.table(level)
	}
	return api.Term{Kind: api.KVar, Text: t.Text, Sort: api.Any}
}

// named returns a term that begins with a name.
func (r *termReader) named(name string, level int) api.Term {
	switch name {
	case "false":
		return api.Term{Kind: api.KBool, N: 0}
	case "true":
		return api.Term{Kind: api.KBool, N: 1}
	}
	if r.takeSign("(") {
		return r.application(name, level)
	}
	r.sign(":")
	return api.Term{Kind: api.KVar, Text: name, Sort: r.name()}
}

func (r *termReader) application(name string, level int) api.Term {
	t := api.Term{Kind: api.KApp, Text: name}
	if !r.isSign(")") {
		t.Kids = between(r.reader, ",", func(before int) api.Term {
			r.begin(level + 1)
			r.room(before, api.MaxArgs)
			return r.body(level + 1)
		})
	}
	r.sign(")")
	return t
}

// negative returns the integer below 0 that begins with a sign, which it follows at once.
func (r *termReader) negative(sign api.Token) api.Term {
	t := r.next()
	r.want(t.Kind == api.TokInt && t.Line == sign.Line && t.Col == sign.Col+1)
	r.take()
	return api.Term{Kind: api.KInt, N: -t.N}
}

func (r *termReader) identifier() api.Term {
	name := r.next().Text
	r.want(r.isName() && name[0] >= 'a' && name[0] <= 'z')
	r.take()
	return api.Term{Kind: api.KId, Text: name}
}

func (r *termReader) list(level int) api.Term {
	t := api.Term{Kind: api.KList}
	if !r.isSign("|") && !r.isSign("]") {
		t.Kids = between(r.reader, ",", func(int) api.Term { return r.part(level + 1) })
	}
	t.Rest = r.rest(api.List, level+1)
	r.sign("]")
	return t
}

func (r *termReader) table(level int) api.Term {
	t := api.Term{Kind: api.KMap}
	if !r.isSign("|") && !r.isSign("}") {
		for _, entry := range between(r.reader, ",", func(int) [2]api.Term { return r.entry(level + 1) }) {
			t.Kids = append(t.Kids, entry[:]...)
		}
	}
	t.Rest = r.rest(api.Map, level+1)
	r.sign("}")
	return t
}

// entry returns a key and its value.
func (r *termReader) entry(level int) [2]api.Term {
	key := r.part(level)
	r.sign("->")
	return [2]api.Term{key, r.part(level)}
}

// rest returns a Rest of a sort, or nothing if none follows.
func (r *termReader) rest(sort string, level int) []api.Term {
	if !r.takeSign("|") {
		return nil
	}
	r.want(r.isName())
	r.node(level)
	return []api.Term{{Kind: api.KVar, Text: r.name(), Sort: sort}}
}
