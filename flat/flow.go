package flat

import (
	"strconv"

	"carillon/api"
	"carillon/lists"
	"carillon/tree"
)

// scope is a flow that is flattened: main, or one that is called.
type scope struct {
	*maker
	vars numbers
}

func (s scope) equations(eqs []api.Eq) {
	for _, q := range eqs {
		outs := lists.Each(q.Names, s.vars.named)
		if q.E.Kind != api.ExCall {
			s.copied(outs[0], s.chain(q.E))
			continue
		}
		made := s.call(q.E, func(api.Node, int) []int { return outs })
		if s.nodes[q.E.Name].Flow {
			for i, v := range made {
				s.copied(outs[i], api.Chain{Var: v, At: q.E.At})
			}
		}
	}
}

// chain is e, of which all calls are flattened.
func (s scope) chain(e api.Expr) api.Chain {
	switch e.Kind {
	case api.ExVar:
		return api.Chain{Var: s.vars.named(e.Name), At: e.At}
	case api.ExCall:
		return api.Chain{Var: s.part(e), At: e.At}
	}
	c := s.chain(e.Args[len(e.Args)-1])
	return api.Chain{Var: c.Var, Links: append(c.Links, linkOf(e)), At: e.At}
}

// linkOf is what e, which is neither a variable nor a call, does to its last Arg.
func linkOf(e api.Expr) api.Link {
	switch e.Kind {
	case api.ExFby:
		return withValue(api.LinkFby, e)
	case api.ExCons:
		return withValue(api.LinkCons, e)
	case api.ExTail:
		return api.Link{Kind: api.LinkTail, At: e.At}
	case api.ExUp:
		return api.Link{Kind: api.LinkUp, K: e.Int, At: e.At}
	case api.ExDown:
		return api.Link{Kind: api.LinkDown, K: e.Int, At: e.At}
	}
	return api.Link{Kind: api.LinkLate, K: e.Int, Den: e.Den, At: e.At}
}

func withValue(kind uint8, e api.Expr) api.Link {
	val, t, _ := tree.Literal(e.Args[0])
	return api.Link{Kind: kind, Val: val, Type: t, At: e.At}
}

// part is the variable that has what the call e makes, which is a part of an expression.
func (s scope) part(e api.Expr) int {
	return s.call(e, func(n api.Node, number int) []int {
		name := n.Name + "." + strconv.Itoa(number)
		return []int{s.variable(api.FlatVar{Name: name, Type: n.Outs[0].Type, At: e.At}, e.At)}
	})[0]
}

// call begins the call e; the answer is which variables have what it makes. A flow has variables of its own; what a node tells is asked of told, by the call's number.
func (s scope) call(e api.Expr, told func(n api.Node, number int) []int) []int {
	s.begun++
	number := s.begun
	n := s.nodes[e.Name]
	if n.Flow {
		return s.callFlow(e, n, number)
	}
	body := s.body(n, e.At)
	args := lists.Each(e.Args, s.chain)
	outs := told(n, number)
	wantRoom(len(s.flat.Calls), api.MaxCalls, e.At)
	s.flat.Calls = append(s.flat.Calls, api.Call{Body: body, Args: args, Outs: outs, At: e.At})
	return outs
}

// callFlow puts the flow n in the place of its call e.
func (s scope) callFlow(e api.Expr, n api.Node, number int) []int {
	args := lists.Each(e.Args, s.chain)
	inner := s.enter(n, n.Name+"."+strconv.Itoa(number)+".", e.At)
	for i, v := range n.Ins {
		s.copied(inner.vars.of(v), args[i])
	}
	inner.equations(n.Eqs)
	return lists.Each(n.Outs, inner.vars.of)
}
