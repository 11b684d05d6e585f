package parse

import "carillon/api"

// The rules of the grammar in which signs stand between parts, or behind one.
const (
	inLater uint8 = iota
	inOr
	inAnd
	inCmp
	inSum
	inTerm
	inPost
)

// sign is a word or sign by its rule, and the kind that it makes of the parts.
type sign struct{ rule, kind uint8 }

// signs has all of them by their texts.
func signs() map[string]sign {
	return map[string]sign{
		"fby": {inLater, api.ExFby},
		"::":  {inLater, api.ExCons},
		"or":  {inOr, api.ExOr},
		"and": {inAnd, api.ExAnd},
		"=":   {inCmp, api.ExEq},
		"<>":  {inCmp, api.ExNe},
		"<":   {inCmp, api.ExLt},
		"<=":  {inCmp, api.ExLe},
		">":   {inCmp, api.ExGt},
		">=":  {inCmp, api.ExGe},
		"+":   {inSum, api.ExAdd},
		"-":   {inSum, api.ExSub},
		"*":   {inTerm, api.ExMul},
		"/":   {inTerm, api.ExDiv},
		"%":   {inTerm, api.ExMod},
		"*^":  {inPost, api.ExUp},
		"/^":  {inPost, api.ExDown},
		"~>":  {inPost, api.ExLate},
	}
}

// between is the kind that the next token makes, if it is a sign of that rule.
func (r *reader) between(rule uint8) (kind uint8, is bool) {
	s, known := r.signs[r.next().Text]
	if !known || s.rule != rule {
		return 0, false
	}
	return s.kind, true
}

// join is two parts put together: it begins where the first one does, parentheses around that not counted.
func join(kind uint8, first, second api.Expr) api.Expr {
	return api.Expr{Kind: kind, At: first.At, Args: []api.Expr{first, second}}
}

// chain reads parts as far as signs of that rule stand between them, put together from the left.
func (r *reader) chain(rule uint8, part func() api.Expr) api.Expr {
	whole := part()
	for {
		kind, is := r.between(rule)
		if !is {
			return whole
		}
		r.take()
		whole = join(kind, whole, part())
	}
}

// ahead reads a sign that stands ahead of its part, and that.
func (r *reader) ahead(kind uint8, part func() api.Expr) api.Expr {
	at := r.enter().At
	defer r.leave()
	return api.Expr{Kind: kind, At: at, Args: []api.Expr{part()}}
}

func (r *reader) expr() api.Expr {
	if !r.is("if") {
		return r.later()
	}
	at := r.enter().At
	defer r.leave()
	asked := r.expr()
	r.want("then")
	yes := r.expr()
	r.want("else")
	no := r.expr()
	return api.Expr{Kind: api.ExIf, At: at, Args: []api.Expr{asked, yes, no}}
}

func (r *reader) later() api.Expr {
	first := r.or1()
	kind, is := r.between(inLater)
	if !is {
		return first
	}
	r.enter()
	defer r.leave()
	return join(kind, first, r.later())
}

func (r *reader) or1() api.Expr  { return r.chain(inOr, r.and1) }
func (r *reader) and1() api.Expr { return r.chain(inAnd, r.not1) }
func (r *reader) sum() api.Expr  { return r.chain(inSum, r.term) }
func (r *reader) term() api.Expr { return r.chain(inTerm, r.unary) }

func (r *reader) not1() api.Expr {
	if r.is("not") {
		return r.ahead(api.ExNot, r.not1)
	}
	return r.cmp()
}

func (r *reader) cmp() api.Expr {
	first := r.sum()
	kind, is := r.between(inCmp)
	if !is {
		return first
	}
	r.take()
	return join(kind, first, r.sum())
}

func (r *reader) unary() api.Expr {
	switch {
	case r.is("-"):
		return r.ahead(api.ExNeg, r.unary)
	case r.is("tail"):
		return r.ahead(api.ExTail, r.unary)
	}
	return r.post()
}

func (r *reader) post() api.Expr {
	e := r.atom()
	for {
		kind, is := r.between(inPost)
		if !is {
			return e
		}
		r.take()
		e = api.Expr{Kind: kind, At: e.At, Args: []api.Expr{e}}
		if kind == api.ExLate {
			e.Int, e.Den = r.delay()
		} else {
			e.Int = r.number(1)
		}
	}
}

// delay reads how much later: a / behind the number is never that of a term.
func (r *reader) delay() (num, den int64) {
	num = r.number(0)
	if !r.skip("/") {
		return num, 1
	}
	return num, r.number(1)
}

func (r *reader) atom() api.Expr {
	at := r.next().At
	switch {
	case r.next().Kind == api.TkInt:
		return api.Expr{Kind: api.ExInt, At: at, Int: r.take().Int}
	case r.next().Kind == api.TkName:
		return r.named()
	case r.skip("true"):
		return api.Expr{Kind: api.ExBool, At: at, Int: 1}
	case r.skip("false"):
		return api.Expr{Kind: api.ExBool, At: at}
	case r.is("("):
		r.enter()
		defer r.leave()
		e := r.expr()
		r.want(")")
		return e
	}
	panic(r.wrong(api.ErrSyntax))
}

// named reads a variable or a call.
func (r *reader) named() api.Expr {
	e := api.Expr{Kind: api.ExVar, At: r.next().At, Name: r.name()}
	if r.is("(") {
		r.enter()
		defer r.leave()
		e.Kind, e.Args = api.ExCall, list(r, ",", r.expr)
		r.want(")")
	}
	return e
}
