package bind

import (
	"carillon/api"
	"carillon/tree"
)

// What a node has under a name; 0: nothing.
const (
	isInput uint8 = iota + 1
	isUntold
	isTold // by an equation
)

// scope is where an expression stands: in a flow, or in a node, that has those names.
type scope struct {
	book
	flow bool
	has  map[string]uint8
}

// wantNode checks all of n but whom it reaches.
func (b book) wantNode(n api.Node, main bool) {
	s := scope{b, n.Flow, make(map[string]uint8)}
	s.add(n.Ins, isInput)
	s.add(n.Outs, isUntold)
	s.add(n.Vars, isUntold)
	if len(n.Ins) == 0 || len(n.Outs) == 0 {
		stop(n.At, api.ErrArity)
	}
	wantRates(n, main)
	for _, q := range n.Eqs {
		s.tell(q)
		s.whole(q.E, len(q.Names))
	}
	s.wantTold(n.Outs)
	s.wantTold(n.Vars)
}

// add notes what the names of list are: all of them are new.
func (s scope) add(list []api.Param, what uint8) {
	for _, v := range list {
		if s.has[v.Name] != 0 {
			stop(v.At, api.ErrTwice)
		}
		s.has[v.Name] = what
	}
}

// wantRates checks that main's inputs have rates, those of others none, nor their outputs deadlines.
func wantRates(n api.Node, main bool) {
	for _, v := range n.Ins {
		if v.Rate != main {
			stop(v.At, api.ErrRate)
		}
	}
	for _, v := range n.Outs {
		if v.Due > 0 && !main {
			stop(v.At, api.ErrRate)
		}
	}
}

// tell notes that the names of q are told: none of them was.
func (s scope) tell(q api.Eq) {
	for _, name := range q.Names {
		switch s.has[name] {
		case isUntold:
			s.has[name] = isTold
		case isTold:
			stop(q.At, api.ErrTwice)
		case isInput:
			stop(q.At, api.ErrInput)
		default:
			stop(q.At, api.ErrUnknown)
		}
	}
}

// wantTold checks that equations have told all of list.
func (s scope) wantTold(list []api.Param) {
	for _, v := range list {
		if s.has[v.Name] != isTold {
			stop(v.At, api.ErrUntold)
		}
	}
}

// whole checks the right side of an equation of so many names.
func (s scope) whole(e api.Expr, names int) {
	if e.Kind != api.ExCall && names != 1 {
		stop(e.At, api.ErrArity)
	}
	s.expr(e, names)
}

// expr checks e, of which so many values are asked.
func (s scope) expr(e api.Expr, values int) {
	args := e.Args
	switch e.Kind {
	case api.ExVar:
		if s.has[e.Name] == 0 {
			stop(e.At, api.ErrUnknown)
		}
	case api.ExCall:
		s.call(e, values)
	case api.ExFby, api.ExCons:
		s.wantFlow(e)
		wantLiteral(args[0])
		args = args[1:]
	case api.ExTail, api.ExUp, api.ExDown, api.ExLate:
		s.wantFlow(e)
	default:
		if s.flow {
			stop(e.At, api.ErrPlace)
		}
	}
	for _, arg := range args {
		s.expr(arg, 1)
	}
}

// call checks e as to whom it calls.
func (s scope) call(e api.Expr, values int) {
	at, is := s.first[e.Name]
	if !is {
		stop(e.At, api.ErrUnknown)
	}
	n := s.nodes[at]
	if n.Flow && !s.flow {
		stop(e.At, api.ErrPlace)
	}
	if len(e.Args) != len(n.Ins) || values != len(n.Outs) {
		stop(e.At, api.ErrArity)
	}
}

// wantFlow checks that e stands in a flow.
func (s scope) wantFlow(e api.Expr) {
	if !s.flow {
		stop(e.At, api.ErrPlace)
	}
}

func wantLiteral(e api.Expr) {
	if _, _, is := tree.Literal(e); !is {
		stop(e.At, api.ErrPlace)
	}
}
