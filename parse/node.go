package parse

import "carillon/api"

func (r *reader) program() api.Program {
	var p api.Program
	for r.is("node") || r.is("flow") {
		p.Nodes = append(p.Nodes, r.node())
	}
	return p
}

// node reads a node or a flow: which of them the next token is.
func (r *reader) node() api.Node {
	first := r.take()
	n := api.Node{Flow: first.Text == "flow", At: first.At, Name: r.name()}
	in, out := r.param, r.param
	if n.Flow {
		in, out = r.in, r.out
	}
	n.Ins = r.params(in)
	r.want("returns")
	n.Outs = r.params(out)
	n.Vars = r.vars()
	r.want("let")
	for !r.skip("tel") {
		n.Eqs = append(n.Eqs, r.eq())
	}
	return n
}

// params reads a list in parentheses, which may have none.
func (r *reader) params(one func() api.Param) []api.Param {
	r.want("(")
	if r.skip(")") {
		return nil
	}
	all := list(r, ";", one)
	r.want(")")
	return all
}

// vars reads a list that let ends, and no parenthesis: a semicolon stands behind each, the last one too.
func (r *reader) vars() []api.Param {
	if !r.skip("var") {
		return nil
	}
	var all []api.Param
	for len(all) == 0 || !r.is("let") {
		all = append(all, r.param())
		r.want(";")
	}
	return all
}

func (r *reader) param() api.Param {
	p := api.Param{At: r.next().At, Name: r.name()}
	r.want(":")
	p.Type = api.TBool
	if !r.skip("bool") {
		r.want("int")
		p.Type = api.TInt
	}
	return p
}

// in is an input of a flow.
func (r *reader) in() api.Param {
	p := r.param()
	if r.skip("rate") {
		r.want("(")
		p.Rate, p.Period = true, r.number(1)
		r.want(",")
		p.Start = r.number(0)
		r.want(")")
	}
	return p
}

// out is an output of a flow.
func (r *reader) out() api.Param {
	p := r.param()
	if r.skip("due") {
		p.Due = r.number(1)
	}
	return p
}

func (r *reader) eq() api.Eq {
	q := api.Eq{At: r.next().At}
	if r.skip("(") {
		q.Names = list(r, ",", r.name)
		r.want(")")
	} else {
		q.Names = []string{r.name()}
	}
	r.want("=")
	q.E = r.expr()
	r.want(";")
	return q
}
