package flat

import (
	"fmt"
	"math/rand"
	"reflect"
	"slices"
	"strconv"
	"testing"

	"carillon/api"
	"carillon/tree"
)

// dice makes programs by chance whose names are right.
type dice struct {
	chance *rand.Rand
	nodes  []api.Node // those that may be called
	kind
}

// kind is what a program is like.
type kind struct {
	nodes, flows int // how many, at most
	crowd        int // how many of 10 parts are calls
	depth        int // of expressions, at most
	astray       int // how many of 100 equations of nodes may lead into a ring
}

func (m *dice) program() api.Program {
	m.nodes = nil
	nodes, flows := 1+m.chance.Intn(m.kind.nodes), m.chance.Intn(m.flows+1)
	for i := range nodes {
		m.nodes = append(m.nodes, m.node("n"+strconv.Itoa(i), false, false))
	}
	for i := range flows {
		m.nodes = append(m.nodes, m.node("s"+strconv.Itoa(i), true, false))
	}
	p := api.Program{Nodes: append(m.nodes, m.node("m", true, true))}
	m.chance.Shuffle(len(p.Nodes), reflect.Swapper(p.Nodes))
	m.place(p)
	return tree.CopyProgram(p)
}

func (m *dice) node(name string, flow, main bool) api.Node {
	n := api.Node{Name: name, Flow: flow}
	all := []string{"a", "b", "c", "d", "e", "n0", "s0", "m", "x", "y"}
	m.chance.Shuffle(len(all), reflect.Swapper(all))
	ins, outs, vars := 1+m.chance.Intn(3), 1+m.chance.Intn(2), m.chance.Intn(5)
	if m.chance.Intn(2) == 0 {
		outs = 1
	}
	for i, name := range all[:ins+outs+vars] {
		v := api.Param{Name: name, Type: 1 + uint8(m.chance.Intn(2))}
		switch {
		case i < ins && main:
			v.Rate, v.Period, v.Start = true, 1+m.chance.Int63n(9), m.chance.Int63n(9)
			n.Ins = append(n.Ins, v)
		case i < ins:
			n.Ins = append(n.Ins, v)
		case i < ins+outs:
			if main {
				v.Due = m.chance.Int63n(4)
			}
			n.Outs = append(n.Outs, v)
		default:
			n.Vars = append(n.Vars, v)
		}
	}
	m.equations(&n)
	return n
}

func paramNames(list ...api.Param) []string {
	var all []string
	for _, v := range list {
		all = append(all, v.Name)
	}
	return all
}

// equations gives n those that tell each of its variables, in no order; in nodes they can be put in one, but for what goes astray.
func (m *dice) equations(n *api.Node) {
	left := paramNames(slices.Concat(n.Outs, n.Vars)...)
	m.chance.Shuffle(len(left), reflect.Swapper(left))
	known := paramNames(n.Ins...)
	for len(left) > 0 {
		has := known
		if n.Flow || m.chance.Intn(100) < m.astray {
			has = paramNames(allOf(*n)...)
		}
		q := api.Eq{Names: left[:1], E: m.expr(n.Flow, has, 1+m.chance.Intn(m.depth))}
		if c := m.callee(n.Flow, 2); len(left) > 1 && c >= 0 && m.chance.Intn(2) == 0 {
			q = api.Eq{Names: left[:2], E: m.call(n.Flow, c, has, 3)}
		}
		known = append(known, q.Names...)
		left = left[len(q.Names):]
		n.Eqs = append(n.Eqs, q)
	}
	m.chance.Shuffle(len(n.Eqs), reflect.Swapper(n.Eqs))
}

// callee is one of those that may be called, of so many outputs, or below 0.
func (m *dice) callee(flow bool, outs int) int {
	var all []int
	for i, n := range m.nodes {
		if len(n.Outs) == outs && (flow || !n.Flow) {
			all = append(all, i)
		}
	}
	if len(all) == 0 {
		return -1
	}
	return all[m.chance.Intn(len(all))]
}

func (m *dice) call(flow bool, c int, has []string, depth int) api.Expr {
	e := api.Expr{Kind: api.ExCall, Name: m.nodes[c].Name}
	for range m.nodes[c].Ins {
		e.Args = append(e.Args, m.expr(flow, has, depth-1))
	}
	return e
}

func (m *dice) expr(flow bool, has []string, depth int) api.Expr {
	if depth <= 1 || m.chance.Intn(8) == 0 {
		return api.Expr{Kind: api.ExVar, Name: has[m.chance.Intn(len(has))]}
	}
	if c := m.callee(flow, 1); c >= 0 && m.chance.Intn(10) < m.crowd {
		return m.call(flow, c, has, depth)
	}
	if flow {
		return m.link(m.expr(flow, has, depth-1))
	}
	kind := api.ExInt + uint8(m.chance.Intn(int(api.ExIf-api.ExInt)+1))
	e := api.Expr{Kind: kind}
	switch {
	case kind == api.ExCall:
		e.Kind = api.ExSub
	case kind == api.ExInt || kind == api.ExBool:
		e.Int = int64(m.chance.Intn(2))
	}
	for range argsOf(e.Kind) {
		e.Args = append(e.Args, m.expr(flow, has, depth-1))
	}
	return e
}

func (m *dice) link(rest api.Expr) api.Expr {
	e := api.Expr{Kind: api.ExFby + uint8(m.chance.Intn(6))}
	switch e.Kind {
	case api.ExFby, api.ExCons:
		literals := []api.Expr{number(m.chance.Int63()), {Kind: api.ExBool, Int: m.chance.Int63n(2)}, of(api.ExNeg, number(m.chance.Int63n(5)))}
		e.Args = []api.Expr{literals[m.chance.Intn(3)]}
	case api.ExUp, api.ExDown:
		e.Int = 1 + m.chance.Int63n(5)
	case api.ExLate:
		e.Int, e.Den = m.chance.Int63n(5), 1+m.chance.Int63n(5)
	}
	e.Args = append(e.Args, rest)
	return e
}

// place gives each part a place that no other one has, in no order.
func (m *dice) place(p api.Program) {
	var places []*int
	var ofExpr func(e *api.Expr)
	ofExpr = func(e *api.Expr) {
		places = append(places, &e.At)
		for i := range e.Args {
			ofExpr(&e.Args[i])
		}
	}
	for i := range p.Nodes {
		n := &p.Nodes[i]
		for _, list := range [][]api.Param{n.Ins, n.Outs, n.Vars} {
			for j := range list {
				places = append(places, &list[j].At)
			}
		}
		for j := range n.Eqs {
			places = append(places, &n.Eqs[j].At)
			ofExpr(&n.Eqs[j].E)
		}
	}
	for i, at := range m.chance.Perm(len(places)) {
		*places[i] = at + 1
	}
}

// P8.1, P8.3: made programs against what the chapter says step by step; R5, R6.
func TestMade(t *testing.T) {
	m := &dice{chance: rand.New(rand.NewSource(5))}
	kinds := []kind{
		{nodes: 5, flows: 5, crowd: 3, depth: 4, astray: 9},
		{nodes: 8, flows: 2, crowd: 6, depth: 5, astray: 1},
		{nodes: 1, flows: 16, crowd: 7, depth: 5},
		{nodes: 3, flows: 12, crowd: 8, depth: 4},
		{nodes: 14, flows: 3, crowd: 2, depth: 9},
	}
	seen := make(map[string]int)
	bodies := 0
	for i := range 1200 {
		m.kind = kinds[i%len(kinds)]
		p := m.program()
		if e := tree.May(p); e != api.OK {
			seen["no program"]++
			continue
		}
		before := tree.CopyProgram(p)
		want, fault, what := judged(p, "m")
		seen[what]++
		if fault.Err != api.OK {
			wantFault(t, what, p, fault)
		} else {
			f := flattened(t, p)
			if got, asked := fmt.Sprintf("%+v", f), fmt.Sprintf("%+v", want); got != asked || !Same(f, want) {
				t.Errorf("%s,\nnot %s", got, asked)
			}
			if again := flattened(t, p); !reflect.DeepEqual(f, again) {
				t.Error("not the same again")
			}
			bodies += len(f.Bodies)
			wantValues(t, m.chance, p, f)
		}
		if !reflect.DeepEqual(p, before) {
			t.Error("a program was changed")
		}
		if t.Failed() {
			t.Fatalf("program %d: %+v", i, p)
		}
	}
	for what, least := range map[string]int{"": 500, "variables": 20, "calls": 20, "variables of a body": 20, "work": 10, "ring": 20} {
		if seen[what] < least {
			t.Errorf("%d programs of %q", seen[what], what)
		}
	}
	if bodies < 1000 {
		t.Errorf("%d bodies", bodies)
	}
}

// value is what is not reckoned yet.
type value func() int64

// wantValues asks that each body makes of numbers what its node makes of them.
func wantValues(t *testing.T, chance *rand.Rand, p api.Program, f api.Flat) {
	t.Helper()
	for _, b := range f.Bodies {
		vals := make([]int64, len(b.Vars))
		ins := make([]value, b.Ins)
		for i := range ins {
			vals[i] = chance.Int63n(7) - 3
			ins[i] = func() int64 { return vals[i] }
		}
		for _, q := range b.Eqs {
			vals[q.Var] = worth(q.E, func(e api.Expr) value { return func() int64 { return vals[e.Int] } })
		}
		for i, out := range made(p, b.Name, ins) {
			if want := out(); vals[b.Outs[i]] != want {
				t.Errorf("output %d of %s is %d, not %d", i, b.Name, vals[b.Outs[i]], want)
			}
		}
	}
}

// made are the outputs of a node, of these inputs.
func made(p api.Program, name string, ins []value) []value {
	n := nodeOf(p, name)
	has := make(map[string]value)
	for i, v := range n.Ins {
		has[v.Name] = ins[i]
	}
	var at func(e api.Expr) value
	at = func(e api.Expr) value {
		if e.Kind == api.ExVar {
			return func() int64 { return has[e.Name]() }
		}
		return called(p, e, at)[0]
	}
	for _, q := range n.Eqs {
		outs := []value{func() int64 { return worth(q.E, at) }}
		if q.E.Kind == api.ExCall {
			outs = called(p, q.E, at)
		}
		for i, name := range q.Names {
			has[name] = once(outs[i])
		}
	}
	var outs []value
	for _, v := range n.Outs {
		outs = append(outs, has[v.Name])
	}
	return outs
}

// called are the outputs of a call; at tells what a variable, or a call, of its Args is.
func called(p api.Program, e api.Expr, at func(e api.Expr) value) []value {
	var args []value
	for _, arg := range e.Args {
		args = append(args, once(func() int64 { return worth(arg, at) }))
	}
	return made(p, e.Name, args)
}

// once is a value that is reckoned no more than once.
func once(v value) value {
	done, is := int64(0), false
	return func() int64 {
		if !is {
			done, is = v(), true
		}
		return done
	}
}

// worth is what an expression of a node, or a body, is worth. (Numbers of either type are numbers here.)
func worth(e api.Expr, at func(e api.Expr) value) int64 {
	if e.Kind == api.ExVar || e.Kind == api.ExCall {
		return at(e)()
	}
	sum := int64(e.Kind)*31 + e.Int*7
	for i, arg := range e.Args {
		sum += int64(i+2) * worth(arg, at)
	}
	return sum
}
