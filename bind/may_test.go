package bind

import (
	"slices"
	"strconv"
	"testing"

	"carillon/api"
)

func number(n int64) api.Expr { return api.Expr{Kind: api.ExInt, Int: n} }

func variable(name string) api.Expr { return api.Expr{Kind: api.ExVar, Name: name} }

// deep is an expression of that depth.
func deep(depth int) api.Expr {
	e := variable("x")
	for range depth - 1 {
		e = api.Expr{Kind: api.ExNeg, Args: []api.Expr{e}}
	}
	return e
}

// wide is an expression of that size, 1 or more than 2, and not deep.
func wide(size int) api.Expr {
	if size == 1 {
		return variable("x")
	}
	if size%2 == 0 {
		return api.Expr{Kind: api.ExNeg, Args: []api.Expr{wide(size - 1)}}
	}
	half := (size - 1) / 2
	if half == 2 {
		half = 1
	}
	return api.Expr{Kind: api.ExAdd, Args: []api.Expr{wide(half), wide(size - 1 - half)}}
}

// params are so many of them, named with numbers behind the name.
func params(name string, many int) (list []api.Param) {
	for i := range many {
		list = append(list, api.Param{Name: name + strconv.Itoa(i), Type: api.TInt, At: 500 + i})
	}
	return list
}

// eqs are so many equations of y.
func eqs(many int, e api.Expr) (list []api.Eq) {
	for range many {
		list = append(list, api.Eq{Names: []string{"y"}, At: 300, E: e})
	}
	return list
}

// badPrograms have tree.May's errors, and a main that there is not, nodes of one name, a ring.
func badPrograms() map[string]api.Program {
	nodes := func(n api.Node, many int) api.Program {
		n.At = 700
		if n.Name == "" {
			n.Name = "n"
		}
		n.Eqs = slices.Concat(n.Eqs, []api.Eq{{Names: []string{"y"}, E: api.Expr{Kind: api.ExCall, Name: "n", Args: []api.Expr{variable("x")}}}})
		return api.Program{Nodes: slices.Repeat([]api.Node{n}, many)}
	}
	return map[string]api.Program{
		"42 nodes":     nodes(api.Node{}, api.MaxNodes+1),
		"42 inputs":    nodes(api.Node{Ins: params("x", api.MaxParams+1)}, 2),
		"42 outputs":   nodes(api.Node{Outs: params("x", api.MaxParams+1)}, 2),
		"42 variables": nodes(api.Node{Vars: params("x", api.MaxParams+1)}, 2),
		"42 equations": nodes(api.Node{Eqs: eqs(api.MaxEqs, number(1))}, 2),
		"42 size":      nodes(api.Node{Eqs: eqs(1, wide(api.MaxSize/2-1))}, 2),
		"40 name":      nodes(api.Node{Name: "node"}, 2),
		"40 param":     nodes(api.Node{Ins: []api.Param{{Name: "x"}}}, 2),
		"40 rate":      nodes(api.Node{Ins: []api.Param{{Name: "x", Type: api.TInt, Rate: true, Period: 1}}}, 2),
		"40 due":       nodes(api.Node{Flow: true, Vars: []api.Param{{Name: "x", Type: api.TInt, Due: 1}}}, 2),
		"40 equation":  nodes(api.Node{Eqs: []api.Eq{{E: number(1)}}}, 2),
		"40 Args":      nodes(api.Node{Eqs: eqs(1, api.Expr{Kind: api.ExFby, Args: []api.Expr{number(1)}})}, 2),
		"40 no kind":   nodes(api.Node{Eqs: eqs(1, api.Expr{Kind: api.ExLate + 1})}, 2),
		"40 none":      nodes(api.Node{Eqs: eqs(1, api.Expr{})}, 2),
		"40 call":      nodes(api.Node{Eqs: eqs(1, api.Expr{Kind: api.ExCall, Name: "n"})}, 2),
		"40 and big":   nodes(api.Node{Name: "1", Eqs: eqs(1, wide(api.MaxSize))}, 2),
		"41 depth":     nodes(api.Node{Eqs: eqs(1, deep(api.MaxDepth+1))}, 2),
		"41 and big":   nodes(api.Node{Eqs: append(eqs(1, deep(api.MaxDepth+1)), eqs(1, wide(api.MaxSize))...)}, 2),
	}
}

// P7.1 (1), P7.2: tree.May's errors, at 0, ahead of all others.
func TestMay(t *testing.T) {
	for what, p := range badPrograms() {
		n, _ := strconv.Atoi(what[:2])
		want := api.Fault{At: 0, Err: api.Errno(n)}
		wantFault(t, what, Check(p, "m"), want)
		wantFault(t, what, Check(p, "n"), want)
		wantNoOrder(t, what, p, want)
	}
}

// callOf is a call of name with so many Args.
func callOf(name string, args int) api.Expr {
	return api.Expr{Kind: api.ExCall, Name: name, Args: slices.Repeat([]api.Expr{variable("x0")}, args)}
}

// largest is a flow main and as many nodes as may be, each with as many of all as may be and is right.
func largest() (p api.Program) {
	for i := range api.MaxNodes {
		n := api.Node{
			Flow: true,
			Name: "f" + strconv.Itoa(i),
			At:   i,
			Ins:  params("x", api.MaxParams),
			Outs: params("o", api.MaxParams),
			Vars: params("v", api.MaxParams),
		}
		told := slices.Concat(n.Outs, n.Vars)
		first := api.Eq{E: callOf("f"+strconv.Itoa(i+1), api.MaxArgs)}
		for _, v := range n.Outs {
			first.Names = append(first.Names, v.Name)
		}
		if i+1 < api.MaxNodes {
			n.Eqs = append(n.Eqs, first)
			told = n.Vars[:1]
			n.Vars = told
		}
		for _, v := range told {
			n.Eqs = append(n.Eqs, api.Eq{Names: []string{v.Name}, E: variable("o0")})
		}
		p.Nodes = append(p.Nodes, n)
	}
	for i := range p.Nodes[0].Ins {
		p.Nodes[0].Ins[i].Rate, p.Nodes[0].Ins[i].Period = true, 1
	}
	return p
}

// P7.1, P7.2: at the limits all is as below them.
func TestLimits(t *testing.T) {
	p := largest()
	wantFault(t, "the largest", Check(p, "f0"), api.Fault{})
	var back []int
	for i := range p.Nodes {
		back = append([]int{i}, back...)
	}
	wantOrder(t, p, back...)
	p.Nodes[60].Eqs[0].E.Args[31].Name = "w"
	p.Nodes[60].Eqs[0].E.Args[31].At = 31
	wantFault(t, "the largest, with a name", Check(p, "f0"), api.Fault{At: 31, Err: api.ErrUnknown})

	one := func(list []api.Eq) api.Program {
		n := api.Node{Name: "n", At: 5, Ins: []api.Param{{Name: "x", Type: api.TInt}}, Outs: []api.Param{{Name: "y", Type: api.TInt}}, Eqs: list}
		return withMain(t, api.Program{Nodes: []api.Node{n}})
	}
	wantFault(t, "as deep as may be", Check(one(eqs(1, deep(api.MaxDepth))), "m"), api.Fault{})
	wantFault(t, "deeper", Check(one(eqs(1, deep(api.MaxDepth+1))), "m"), api.Fault{At: 0, Err: api.ErrDeep})
	// One more stands in main.
	wantFault(t, "as great as may be", Check(one(eqs(1, wide(api.MaxSize-1))), "m"), api.Fault{})
	wantFault(t, "greater", Check(one(eqs(1, wide(api.MaxSize))), "m"), api.Fault{At: 0, Err: api.ErrBig})
	wantOrder(t, one(eqs(1, wide(api.MaxSize-1))), 0, 1)
	wantFault(t, "as many equations as may be", Check(one(eqs(api.MaxEqs, number(1))), "m"), api.Fault{At: 300, Err: api.ErrTwice})
	wantOrder(t, one(eqs(api.MaxEqs, number(1))), 0, 1)
}

// P7.1: places are told as they stand in the tree, whatever they are.
func TestPlaces(t *testing.T) {
	for _, at := range []int{-1, -1 << 63, 1<<63 - 1, 0, 1 << 40} {
		p := program(t, "node n(x: int) returns (y: int) let y = x; tel"+behind)
		p.Nodes[0].Eqs[0].E = api.Expr{Kind: api.ExVar, Name: "w", At: at}
		wantFault(t, "a place", Check(p, "m"), api.Fault{At: at, Err: api.ErrUnknown})
		p.Nodes[0].Eqs[0] = api.Eq{Names: []string{"x"}, At: at, E: number(1)}
		wantFault(t, "a place", Check(p, "m"), api.Fault{At: at, Err: api.ErrInput})
		p.Nodes[0].Outs[0] = api.Param{Name: "x", At: at, Type: api.TInt}
		wantFault(t, "a place", Check(p, "m"), api.Fault{At: at, Err: api.ErrTwice})
		p.Nodes[0].Outs, p.Nodes[0].At = nil, at
		wantFault(t, "a place", Check(p, "m"), api.Fault{At: at, Err: api.ErrArity})
	}
}

// P7.1 (4): an expression and its Args that are all wrong, not at one place.
func TestPlacesOfArgs(t *testing.T) {
	wrong := []api.Expr{{Kind: api.ExVar, Name: "w", At: 30}, {Kind: api.ExVar, Name: "w", At: 20}}
	for _, x := range []struct {
		kind           uint8
		inNode, inFlow api.Fault
	}{
		{api.ExFby, api.Fault{At: 50, Err: api.ErrPlace}, api.Fault{At: 30, Err: api.ErrPlace}},
		{api.ExCons, api.Fault{At: 50, Err: api.ErrPlace}, api.Fault{At: 30, Err: api.ErrPlace}},
		{api.ExAdd, api.Fault{At: 30, Err: api.ErrUnknown}, api.Fault{At: 50, Err: api.ErrPlace}},
	} {
		for _, head := range []string{"node", "flow"} {
			p := program(t, head+" n(x: int) returns (y: int) let y = x; tel"+behind)
			p.Nodes[0].Eqs[0].E = api.Expr{Kind: x.kind, At: 50, Args: wrong}
			want := x.inNode
			if head == "flow" {
				want = x.inFlow
			}
			wantFault(t, head, Check(p, "m"), want)
		}
	}
}

// R1, R4: lists that are nil and lists without elements.
func TestEmptyLists(t *testing.T) {
	for _, p := range []api.Program{{}, {Nodes: []api.Node{}}} {
		wantFault(t, "no nodes", Check(p, "m"), api.Fault{At: 0, Err: api.ErrMain})
		wantFault(t, "no nodes", Check(p, ""), api.Fault{At: 0, Err: api.ErrMain})
	}
	nils := api.Node{Flow: true, Name: "m", At: 4}
	none := api.Node{Flow: true, Name: "m", At: 4, Ins: []api.Param{}, Outs: []api.Param{}, Vars: []api.Param{}, Eqs: []api.Eq{}}
	for _, n := range []api.Node{nils, none} {
		wantFault(t, "no lists", Check(api.Program{Nodes: []api.Node{n}}, "m"), api.Fault{At: 4, Err: api.ErrArity})
		wantOrder(t, api.Program{Nodes: []api.Node{n}}, 0)
	}
}
