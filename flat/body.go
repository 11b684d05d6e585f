package flat

import (
	"strings"

	"carillon/api"
	"carillon/lists"
	"carillon/tree"
)

// body is the number of the body of the node n, which is made if it is not there yet; at is the call.
func (m *maker) body(n api.Node, at int) int {
	number, is := m.bodies[n.Name]
	if !is {
		number = len(m.flat.Bodies)
		m.bodies[n.Name] = number
		m.flat.Bodies = append(m.flat.Bodies, m.bodyOf(n, at))
	}
	return number
}

func (m *maker) bodyOf(n api.Node, at int) api.Body {
	b := &bodyMaker{maker: m, at: at}
	vars := b.enter(n)
	b.equations(n.Eqs, vars)
	return api.Body{
		Name: strings.Clone(n.Name),
		Ins:  len(n.Ins),
		Vars: b.types,
		Eqs:  b.sorted(),
		Outs: lists.Each(n.Outs, vars.of),
	}
}

// bodyMaker makes the body of a node, with all that it calls put in.
type bodyMaker struct {
	*maker
	at     int     // the call in a flow for which it is made
	types  []uint8 // of the variables
	eqs    []api.BodyEq
	places []int // of eqs
}

// enter puts the variables of n behind those that there are.
func (b *bodyMaker) enter(n api.Node) numbers {
	return numbersOf(n, func(v api.Param) int {
		wantRoom(len(b.types), api.MaxVars, b.at)
		b.types = append(b.types, v.Type)
		return len(b.types) - 1
	})
}

func (b *bodyMaker) equations(eqs []api.Eq, vars numbers) {
	for _, q := range eqs {
		if q.E.Kind != api.ExCall {
			b.tell(vars.named(q.Names[0]), b.expr(q.E, vars), q.At)
			continue
		}
		for i, v := range b.call(q.E, vars) {
			b.tell(vars.named(q.Names[i]), variable(v, q.E.At), q.At)
		}
	}
}

// tell puts an equation behind those that there are. All bodies' size is looked at here, as what is too great need not be made to its end: nothing else can be told of it first.
func (b *bodyMaker) tell(v int, e api.Expr, at int) {
	b.work += tree.Size(e)
	if b.work > api.MaxWork {
		panic(fault(b.at, api.ErrBig))
	}
	b.eqs = append(b.eqs, api.BodyEq{Var: v, E: e})
	b.places = append(b.places, at)
}

// expr is e, with variables in the place of names and calls.
func (b *bodyMaker) expr(e api.Expr, vars numbers) api.Expr {
	switch e.Kind {
	case api.ExVar:
		return variable(vars.named(e.Name), e.At)
	case api.ExCall:
		return variable(b.call(e, vars)[0], e.At)
	}
	return api.Expr{Kind: e.Kind, At: e.At, Int: e.Int, Args: b.exprs(e.Args, vars)}
}

func (b *bodyMaker) exprs(list []api.Expr, vars numbers) []api.Expr {
	return lists.Each(list, func(e api.Expr) api.Expr { return b.expr(e, vars) })
}

func variable(v, at int) api.Expr {
	return api.Expr{Kind: api.ExVar, At: at, Int: int64(v)}
}

// call puts the node that e calls in; the answer is which variables are its outputs.
func (b *bodyMaker) call(e api.Expr, vars numbers) []int {
	n := b.nodes[e.Name]
	args := b.exprs(e.Args, vars)
	inner := b.enter(n)
	for i, v := range n.Ins {
		b.tell(inner.of(v), args[i], e.At)
	}
	b.equations(n.Eqs, inner)
	return lists.Each(n.Outs, inner.of)
}

// sorted has the equations: again and again the first of those left that uses no variable that one of those left tells.
func (b *bodyMaker) sorted() []api.BodyEq {
	var made []api.BodyEq
	left := make([]bool, len(b.types)) // of variables: that an equation of those left tells
	for _, q := range b.eqs {
		left[q.Var] = true
	}
	for range b.eqs {
		q := b.eqs[b.next(left)]
		left[q.Var] = false
		made = append(made, q)
	}
	return made
}

// next is the first equation of those left that uses none of the variables that these tell.
func (b *bodyMaker) next(left []bool) int {
	first := -1
	for i, q := range b.eqs {
		if !left[q.Var] {
			continue
		}
		if !uses(q.E, left) {
			return i
		}
		if first < 0 {
			first = i
		}
	}
	panic(fault(b.places[first], api.ErrLoop))
}

// uses is whether e has one of those variables.
func uses(e api.Expr, those []bool) bool {
	if e.Kind == api.ExVar {
		return those[e.Int]
	}
	for _, arg := range e.Args {
		if uses(arg, those) {
			return true
		}
	}
	return false
}
