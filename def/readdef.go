package def

import (
	"math"
	"slices"

	"voussoir/api"
)

func (r *reader) definition() api.Def {
	r.word("language")
	d := api.Def{Name: r.name()}
	r.sign(".")
	for len(r.left) > 0 {
		r.item(&d)
		r.sign(".")
	}
	return d
}

// item adds to a definition what its next item says.
func (r *reader) item(d *api.Def) {
	r.want(r.next().Kind == api.TokName)
	switch r.next().Text {
	case "sort":
		r.sorts(d)
	case "subsort":
		r.subsort(d)
	case "value":
		r.take()
		d.Sig.Values = append(d.Sig.Values, r.names(math.MaxInt)...)
	case "op":
		r.op(d)
	case "fun":
		r.fun(d)
	case "let":
		r.let(d)
	case "start":
		d.Start = r.only(d.Start)
	case "cell":
		r.onceCell(d)
	case "many":
		r.many(d)
	case "watch":
		d.Watch = r.only(d.Watch)
	case "rule":
		r.rule(d)
	default:
		r.fail(api.ErrSyntax)
	}
}

// names returns names between commas, at most so many.
func (r *reader) names(most int) []string {
	return between(r, ",", func(before int) string {
		r.want(r.isName())
		r.room(before, most)
		return r.name()
	})
}

func (r *reader) sorts(d *api.Def) {
	r.take()
	d.Sig.Sorts = append(d.Sig.Sorts, r.names(api.MaxSorts-len(d.Sig.Sorts))...)
}

func (r *reader) subsort(d *api.Def) {
	r.room(len(d.Sig.Below), maxBelow)
	r.take()
	low := r.name()
	r.sign("<")
	d.Sig.Below = append(d.Sig.Below, api.Below{Low: low, High: r.name()})
}

// only returns the name in an item that may be there once, and there was none so far if that is empty.
func (r *reader) only(old string) string {
	r.wantFirst(old == "")
	r.take()
	return r.name()
}

// wantFirst raises a fault at the next token unless it is there for the first time.
func (r *reader) wantFirst(first bool) {
	if !first {
		r.fail(api.ErrTwice)
	}
}

// opName goes into an item of an operator or a function, up to its pieces.
func (r *reader) opName(d *api.Def) string {
	r.room(len(d.Sig.Ops)+len(d.Sig.Funs), api.MaxOps)
	r.take()
	name := r.name()
	r.sign(":")
	return name
}

func (r *reader) op(d *api.Def) {
	op := api.Op{Name: r.opName(d)}
	for !r.isSign("->") {
		r.piece(&op)
	}
	if !slices.ContainsFunc(op.Pieces, func(p api.Piece) bool { return p.Sort == "" }) {
		op.Pieces = nil
	}
	r.take()
	op.Sort = r.name()
	for !r.isSign(".") {
		r.attr(&op)
	}
	d.Sig.Ops = append(d.Sig.Ops, op)
}

// piece adds a piece to an operator.
func (r *reader) piece(op *api.Op) {
	t := r.next()
	r.want(r.isName() || t.Kind == api.TokText)
	r.room(len(op.Pieces), maxPieces)
	if t.Kind == api.TokText {
		op.Pieces = append(op.Pieces, api.Piece{Text: t.Text})
	} else {
		r.room(len(op.Args), api.MaxArgs)
		op.Args = append(op.Args, t.Text)
		op.Pieces = append(op.Pieces, api.Piece{Sort: t.Text})
	}
	r.take()
}

// attr adds an attribute to an operator.
func (r *reader) attr(op *api.Op) {
	switch {
	case r.isWord("prec"):
		r.wantFirst(op.Prec == 0)
		r.take()
		op.Prec = r.integer(maxPrec)
	case r.isWord("left"):
		op.Assoc = r.assoc(op.Assoc, api.AssocLeft)
	case r.isWord("right"):
		op.Assoc = r.assoc(op.Assoc, api.AssocRight)
	case r.isWord("strict"):
		r.wantFirst(len(op.Strict) == 0)
		r.take()
		r.sign("(")
		op.Strict = between(r, ",", func(int) int { return r.integer(api.MaxArgs) })
		r.sign(")")
	default:
		r.fail(api.ErrSyntax)
	}
}

func (r *reader) assoc(old, said api.Assoc) api.Assoc {
	r.wantFirst(old == api.AssocNone)
	r.take()
	return said
}

func (r *reader) fun(d *api.Def) {
	fun := api.Op{Name: r.opName(d)}
	for !r.isSign("->") {
		r.want(r.isName())
		r.room(len(fun.Args), api.MaxArgs)
		fun.Args = append(fun.Args, r.name())
	}
	r.take()
	fun.Sort = r.name()
	d.Sig.Funs = append(d.Sig.Funs, fun)
}

func (r *reader) let(d *api.Def) {
	r.room(len(d.Eqs), api.MaxRules)
	t := r.take()
	eq := api.Eq{Line: t.Line, Col: t.Col}
	eq.Left = r.term()
	r.sign("=")
	eq.Right = r.term()
	eq.If = r.conditions()
	d.Eqs = append(d.Eqs, eq)
}

// conditions returns what stands after if, or nothing if that does not follow.
func (r *reader) conditions() []api.Term {
	if !r.isWord("if") {
		return nil
	}
	r.take()
	return between(r, ",", r.condition)
}

func (r *reader) condition(before int) api.Term {
	r.want(r.isTerm())
	r.room(before, maxIf)
	return r.term()
}

func (r *reader) onceCell(d *api.Def) {
	r.room(len(d.Once), api.MaxCells)
	r.take()
	d.Once = append(d.Once, r.cell(0))
}

func (r *reader) many(d *api.Def) {
	r.wantFirst(d.Kind == "")
	r.take()
	d.Kind = r.name()
	r.sign("(")
	d.Many = between(r, ",", r.cell)
	r.sign(")")
}

// cell returns a cell, beside so many of its item.
func (r *reader) cell(before int) api.Cell {
	r.want(r.isName())
	r.room(before, api.MaxCells)
	t := r.take()
	cell := api.Cell{Name: t.Text, Line: t.Line, Col: t.Col}
	r.sign(":")
	cell.Sort = r.name()
	r.sign("=")
	cell.Init = r.term()
	return cell
}

func (r *reader) rule(d *api.Def) {
	r.room(len(d.Rules), api.MaxRules)
	t := r.take()
	rule := api.Rule{Line: t.Line, Col: t.Col}
	rule.Name = r.name()
	r.sign(":")
	for _, add := range between(r, ";", r.rulePart) {
		add(&rule)
	}
	rule.If = r.conditions()
	d.Rules = append(d.Rules, rule)
}

// rulePart returns how the next part, beside so many, adds to a rule what it says.
func (r *reader) rulePart(before int) func(rule *api.Rule) {
	r.want(r.isName() || r.isWord("new") || r.isWord("drop"))
	r.room(before, maxParts)
	switch {
	case r.isWord("new"):
		fresh := r.fresh()
		return func(rule *api.Rule) { rule.New = append(rule.New, fresh) }
	case r.isWord("drop"):
		name := r.drop()
		return func(rule *api.Rule) { rule.Drop = append(rule.Drop, name) }
	}
	part := r.cellPart()
	return func(rule *api.Rule) { rule.Parts = append(rule.Parts, part) }
}

func (r *reader) fresh() api.Fresh {
	r.take()
	r.sign("(")
	cells := between(r, ",", func(int) api.Term { return r.term() })
	r.sign(")")
	return api.Fresh{Cells: cells}
}

func (r *reader) drop() string {
	r.take()
	r.sign("@")
	return r.name()
}

// cellPart returns what a rule says of a cell.
func (r *reader) cellPart() api.Part {
	t := r.take()
	part := api.Part{Cell: t.Text, Line: t.Line, Col: t.Col}
	if r.takeSign("@") {
		part.At = r.name()
	}
	r.sign(":")
	part.Left = r.term()
	if r.takeSign("=>") {
		part.Right = []api.Term{r.term()}
	}
	return part
}
