package flat

import (
	"slices"
	"strconv"

	"carillon/api"
)

// What flattening does, step by step, without a look at what there may be too much of. Variables are told by their names, which are all different.
type step struct {
	at     int // where it is told, if there is too much with it
	vars   []api.FlatVar
	call   *namedCall
	copied *namedCopy
	node   string // the node whose call is begun
}

type namedChain struct {
	name  string
	links []api.Link
	at    int
}

type namedCall struct {
	node string
	args []namedChain
	outs []string
	at   int
}

type namedCopy struct {
	to   string
	from namedChain
}

// tooMany is how many steps are told, at most: with as many as that there is too much of something.
const tooMany = 5000

// stepper tells the steps.
type stepper struct {
	p     api.Program
	steps []step
	begun int
}

func nodeOf(p api.Program, name string) api.Node {
	return p.Nodes[slices.IndexFunc(p.Nodes, func(n api.Node) bool { return n.Name == name })]
}

func allOf(n api.Node) []api.Param { return slices.Concat(n.Ins, n.Outs, n.Vars) }

func (s *stepper) enter(n api.Node, ahead string, at int) {
	for _, v := range allOf(n) {
		s.steps = append(s.steps, step{at: at, vars: []api.FlatVar{{Name: ahead + v.Name, Type: v.Type, At: v.At}}})
	}
}

func (s *stepper) copied(to string, from namedChain) {
	s.steps = append(s.steps, step{copied: &namedCopy{to, from}})
}

func (s *stepper) equations(n api.Node, ahead string) {
	for _, q := range n.Eqs {
		if len(s.steps) > tooMany {
			return
		}
		var outs []string
		for _, name := range q.Names {
			outs = append(outs, ahead+name)
		}
		if q.E.Kind == api.ExCall {
			s.called(q.E, ahead, outs)
		} else {
			s.copied(outs[0], s.chain(q.E, ahead))
		}
	}
}

// called tells the call e; whole are the variables of its equation, if it is the whole right side. The answer is the variable that has it, if it is none.
func (s *stepper) called(e api.Expr, ahead string, whole []string) string {
	n := nodeOf(s.p, e.Name)
	s.begun++
	name := e.Name + "." + strconv.Itoa(s.begun)
	if !n.Flow {
		s.steps = append(s.steps, step{at: e.At, node: e.Name})
	}
	var args []namedChain
	for _, arg := range e.Args {
		args = append(args, s.chain(arg, ahead))
	}
	if n.Flow {
		s.enter(n, name+".", e.At)
		for i, v := range n.Ins {
			s.copied(name+"."+v.Name, args[i])
		}
		s.equations(n, name+".")
		for i, out := range whole {
			s.copied(out, namedChain{name: name + "." + n.Outs[i].Name, at: e.At})
		}
		return name + "." + n.Outs[0].Name
	}
	if whole == nil {
		s.steps = append(s.steps, step{at: e.At, vars: []api.FlatVar{{Name: name, Type: n.Outs[0].Type, At: e.At}}})
		whole = []string{name}
	}
	s.steps = append(s.steps, step{at: e.At, call: &namedCall{e.Name, args, whole, e.At}})
	return name
}

func (s *stepper) chain(e api.Expr, ahead string) namedChain {
	l := api.Link{At: e.At}
	switch e.Kind {
	case api.ExVar:
		return namedChain{name: ahead + e.Name, at: e.At}
	case api.ExCall:
		return namedChain{name: s.called(e, ahead, nil), at: e.At}
	case api.ExFby, api.ExCons:
		l.Kind = map[uint8]uint8{api.ExFby: api.LinkFby, api.ExCons: api.LinkCons}[e.Kind]
		switch a := e.Args[0]; a.Kind {
		case api.ExNeg:
			l.Val, l.Type = -a.Args[0].Int, api.TInt
		case api.ExBool:
			l.Val, l.Type = a.Int, api.TBool
		default:
			l.Val, l.Type = a.Int, api.TInt
		}
		e.Args = e.Args[1:]
	case api.ExTail:
		l.Kind = api.LinkTail
	case api.ExUp:
		l.Kind, l.K = api.LinkUp, e.Int
	case api.ExDown:
		l.Kind, l.K = api.LinkDown, e.Int
	default:
		l.Kind, l.K, l.Den = api.LinkLate, e.Int, e.Den
	}
	c := s.chain(e.Args[0], ahead)
	return namedChain{c.name, append(c.links, l), e.At}
}

// judged is the flat program that the steps make, or the first fault, and what there was too much of.
func judged(p api.Program, main string) (api.Flat, api.Fault, string) {
	n := nodeOf(p, main)
	s := &stepper{p: p}
	s.enter(n, "", 0)
	s.equations(n, "")
	var f api.Flat
	work := 0
	number := func(name string) int {
		return slices.IndexFunc(f.Vars, func(v api.FlatVar) bool { return v.Name == name })
	}
	chain := func(c namedChain) api.Chain { return api.Chain{Var: number(c.name), Links: c.links, At: c.at} }
	for _, t := range s.steps {
		f.Vars = append(f.Vars, t.vars...)
		if t.copied != nil {
			f.Copies = append(f.Copies, api.Copy{Var: number(t.copied.to), From: chain(t.copied.from)})
		}
		if t.node != "" && bodyNumber(f, t.node) < 0 {
			b, size, fault, what := judgedBody(p, nodeOf(p, t.node), t.at)
			work += size
			if fault.Err != api.ErrBig && work > api.MaxWork {
				fault, what = api.Fault{At: t.at, Err: api.ErrBig}, "work"
			}
			if fault.Err != api.OK {
				return api.Flat{}, fault, what
			}
			f.Bodies = append(f.Bodies, b)
		}
		if t.call != nil {
			c := api.Call{Body: bodyNumber(f, t.call.node), At: t.call.at}
			for _, arg := range t.call.args {
				c.Args = append(c.Args, chain(arg))
			}
			for _, out := range t.call.outs {
				c.Outs = append(c.Outs, number(out))
			}
			f.Calls = append(f.Calls, c)
		}
		switch {
		case len(f.Vars) > api.MaxVars:
			return api.Flat{}, api.Fault{At: t.at, Err: api.ErrBig}, "variables"
		case len(f.Calls) > api.MaxCalls:
			return api.Flat{}, api.Fault{At: t.at, Err: api.ErrBig}, "calls"
		}
	}
	for i, v := range n.Ins {
		f.Ins = append(f.Ins, api.FlatIn{Var: i, Period: v.Period, Start: v.Start})
	}
	for _, v := range n.Outs {
		f.Outs = append(f.Outs, api.FlatOut{Name: v.Name, Type: v.Type, From: api.Chain{Var: number(v.Name), At: v.At}, Due: v.Due, At: v.At})
	}
	return f, api.Fault{}, ""
}

func bodyNumber(f api.Flat, name string) int {
	return slices.IndexFunc(f.Bodies, func(b api.Body) bool { return b.Name == name })
}

// namedEq says what a variable of a body is: expressions have names here.
type namedEq struct {
	to string
	e  api.Expr
	at int
}

// bodyStepper tells what a body has.
type bodyStepper struct {
	p     api.Program
	begun int
	vars  []string
	types []uint8
	eqs   []namedEq
}

func (s *bodyStepper) enter(n api.Node, ahead string) {
	for _, v := range allOf(n) {
		s.vars = append(s.vars, ahead+v.Name)
		s.types = append(s.types, v.Type)
	}
}

func (s *bodyStepper) equations(n api.Node, ahead string) {
	for _, q := range n.Eqs {
		if len(s.vars) > tooMany {
			return
		}
		if q.E.Kind != api.ExCall {
			e := s.expr(q.E, ahead)
			s.eqs = append(s.eqs, namedEq{ahead + q.Names[0], e, q.At})
			continue
		}
		within := s.called(q.E, ahead)
		for i, name := range q.Names {
			out := nodeOf(s.p, q.E.Name).Outs[i].Name
			s.eqs = append(s.eqs, namedEq{ahead + name, api.Expr{Kind: api.ExVar, Name: within + out, At: q.E.At}, q.At})
		}
	}
}

// called puts in what e calls; the answer stands ahead of the names of all that this has.
func (s *bodyStepper) called(e api.Expr, ahead string) string {
	n := nodeOf(s.p, e.Name)
	var args []api.Expr
	for _, arg := range e.Args {
		args = append(args, s.expr(arg, ahead))
	}
	s.begun++
	within := strconv.Itoa(s.begun) + "."
	s.enter(n, within)
	for i, arg := range args {
		s.eqs = append(s.eqs, namedEq{within + n.Ins[i].Name, arg, e.At})
	}
	s.equations(n, within)
	return within
}

func (s *bodyStepper) expr(e api.Expr, ahead string) api.Expr {
	switch e.Kind {
	case api.ExVar:
		e.Name = ahead + e.Name
	case api.ExCall:
		out := nodeOf(s.p, e.Name).Outs[0].Name
		return api.Expr{Kind: api.ExVar, Name: s.called(e, ahead) + out, At: e.At}
	}
	e.Args = slices.Clone(e.Args)
	for i := range e.Args {
		e.Args[i] = s.expr(e.Args[i], ahead)
	}
	return e
}

func uncounted(e api.Expr) int {
	size := 1
	for _, arg := range e.Args {
		size += uncounted(arg)
	}
	return size
}

// names are those of all variables of e.
func names(e api.Expr) []string {
	if e.Kind == api.ExVar {
		return []string{e.Name}
	}
	var all []string
	for _, arg := range e.Args {
		all = append(all, names(arg)...)
	}
	return all
}

// byNumber is e with numbers of variables.
func byNumber(e api.Expr, vars []string) api.Expr {
	if e.Kind == api.ExVar {
		e.Int, e.Name = int64(slices.Index(vars, e.Name)), ""
	}
	e.Args = slices.Clone(e.Args)
	for i := range e.Args {
		e.Args[i] = byNumber(e.Args[i], vars)
	}
	return e
}

// judgedBody is the body of n, and its size; or a fault, if its variables are too many, or its equations have no order.
func judgedBody(p api.Program, n api.Node, at int) (api.Body, int, api.Fault, string) {
	s := &bodyStepper{p: p}
	s.enter(n, "")
	s.equations(n, "")
	if len(s.vars) > api.MaxVars {
		return api.Body{}, 0, api.Fault{At: at, Err: api.ErrBig}, "variables of a body"
	}
	b := api.Body{Name: n.Name, Ins: len(n.Ins), Vars: s.types}
	for i := range n.Outs {
		b.Outs = append(b.Outs, len(n.Ins)+i)
	}
	size := 0
	for _, q := range s.eqs {
		size += uncounted(q.e)
	}
	left := s.eqs
	for len(left) > 0 {
		ready := slices.IndexFunc(left, func(q namedEq) bool {
			return !slices.ContainsFunc(names(q.e), func(name string) bool {
				return slices.ContainsFunc(left, func(other namedEq) bool { return other.to == name })
			})
		})
		if ready < 0 {
			return api.Body{}, size, api.Fault{At: left[0].at, Err: api.ErrLoop}, "ring"
		}
		b.Eqs = append(b.Eqs, api.BodyEq{Var: slices.Index(s.vars, left[ready].to), E: byNumber(left[ready].e, s.vars)})
		left = slices.Concat(left[:ready], left[ready+1:])
	}
	return b, size, api.Fault{}, ""
}
