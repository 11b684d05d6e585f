package bind

import (
	"slices"
	"strconv"
	"strings"
	"testing"

	"carillon/api"
)

// graph is a program of nodes told as name: whom it calls; and so on. The last node has the least place.
func graph(spec string) api.Program {
	var p api.Program
	for one := range strings.SplitSeq(spec, ";") {
		name, calls, _ := strings.Cut(strings.TrimSpace(one), ":")
		e := api.Expr{Kind: api.ExVar, Name: "x"}
		for callee := range strings.FieldsSeq(calls) {
			call := api.Expr{Kind: api.ExCall, Name: callee, Args: []api.Expr{{Kind: api.ExVar, Name: "x"}}}
			e = api.Expr{Kind: api.ExAdd, Args: []api.Expr{e, call}}
		}
		p.Nodes = append(p.Nodes, api.Node{
			Name: name,
			At:   9000 - 10*len(p.Nodes),
			Ins:  []api.Param{{Name: "x", Type: api.TInt}},
			Outs: []api.Param{{Name: "y", Type: api.TInt}},
			Eqs:  []api.Eq{{Names: []string{"y"}, E: e}},
		})
	}
	return p
}

// withMain is p and a flow m that is right.
func withMain(t *testing.T, p api.Program) api.Program {
	t.Helper()
	return api.Program{Nodes: append(slices.Clip(p.Nodes), program(t, behind).Nodes...)}
}

func wantOrder(t *testing.T, p api.Program, want ...int) {
	t.Helper()
	if order, err := Order(p); err != nil || !slices.Equal(order, want) {
		t.Errorf("%v, %v, not %v", order, err, want)
	}
}

func wantNoOrder(t *testing.T, what string, p api.Program, want api.Fault) {
	t.Helper()
	order, err := Order(p)
	wantFault(t, what, err, want)
	if len(order) != 0 {
		t.Errorf("%s: %v beside an error", what, order)
	}
}

// wantCycle asks Order, and Check, to tell that node.
func wantCycle(t *testing.T, spec string, node int) {
	t.Helper()
	p := graph(spec)
	want := api.Fault{At: 9000 - 10*node, Err: api.ErrCycle}
	wantNoOrder(t, spec, p, want)
	wantFault(t, spec, Check(withMain(t, p), "m"), want)
}

// P7.2: nodes that can be put in order.
func TestOrder(t *testing.T) {
	wantOrder(t, api.Program{})
	wantOrder(t, api.Program{Nodes: []api.Node{}})
	for spec, want := range map[string][]int{
		"a":                                 {0},
		"a; b; c; d":                        {0, 1, 2, 3},
		"d; c; b; a":                        {0, 1, 2, 3},
		"a; b: a; c: b":                     {0, 1, 2},
		"a: b; b: c; c":                     {2, 1, 0},
		"a: b c; b: c; c":                   {2, 1, 0},
		"a: c; b; c":                        {1, 2, 0},
		"a: c; b: c; c":                     {2, 0, 1},
		"a: d; b: c; c; d":                  {2, 1, 3, 0},
		"a: e; b; c: b; d: a; e: c":         {1, 2, 4, 0, 3},
		"a: b c d; b: c d; c: d; d":         {3, 2, 1, 0},
		"a: b b; b":                         {1, 0},
		"a: b b c b; b: c c; c":             {2, 1, 0},
		"a: c c; b: c; c; d: b a b a":       {2, 0, 1, 3},
		"e: a; d: b; c: e; b: c; a; f: d e": {4, 0, 2, 3, 1, 5},
	} {
		wantOrder(t, graph(spec), want...)
		if err := Check(withMain(t, graph(spec)), "m"); err != nil {
			t.Errorf("%s: %v", spec, err)
		}
	}
}

// P7.2: names that no node bears, or that two bear: the first is called.
func TestOrderNames(t *testing.T) {
	wantOrder(t, graph("a: z"), 0)
	wantOrder(t, graph("a: z b; b: q x y A"), 1, 0)
	wantOrder(t, graph("a: b; b; b: a"), 1, 0, 2)
	wantOrder(t, graph("a: b; b; b: b"), 1, 0, 2)
	wantOrder(t, graph("b; b: b"), 0, 1)
	wantOrder(t, graph("b; b; b; b"), 0, 1, 2, 3)
	wantOrder(t, graph("c: b; b; b: c; c: c; a: c"), 1, 0, 2, 3, 4)
	wantNoOrder(t, "two of a name", graph("a: b; b: a; b"), api.Fault{At: 9000, Err: api.ErrCycle})
	wantNoOrder(t, "two of a name", graph("b: b; b"), api.Fault{At: 9000, Err: api.ErrCycle})
	wantNoOrder(t, "two of a name", graph("c; b: b; b: b"), api.Fault{At: 8990, Err: api.ErrCycle})
}

// P7.1 (5), P7.2: nodes that reach themselves.
func TestCycles(t *testing.T) {
	wantCycle(t, "a: a", 0)
	wantCycle(t, "a: a a", 0)
	wantCycle(t, "a; b: b", 1)
	wantCycle(t, "a; b: a b; c: b", 1)
	wantCycle(t, "a: b; b: a", 0)
	wantCycle(t, "a; b: c; c: b", 1)
	wantCycle(t, "a: b; b: c; c: a", 0)
	wantCycle(t, "a: c; b: a; c: b", 0)
	wantCycle(t, "d; a: b; c: a; b: d c", 1)
	wantCycle(t, "a: b; b: a; c: d; d: c", 0)
	wantCycle(t, "a; c: d; d: c; b: b", 1)
	// Who reaches a ring is not in it.
	wantCycle(t, "a: b; b: b", 1)
	wantCycle(t, "a: b; b: c; c: b", 1)
	wantCycle(t, "a: d; b: a; c: b; d: e; e: f; f: d", 3)
	wantCycle(t, "a: c b; b; c: b d; d: e; e: c b", 2)
	wantCycle(t, "a: b c d; b: c; c: d; d: d", 3)
	// Nor is whom a ring calls.
	wantCycle(t, "b; a: b c; c: a b", 1)
	wantCycle(t, "b: e; e; a: b c e; c: b a e", 2)
}

// P7.1 (5): flows that reach themselves, main too.
func TestFlowCycles(t *testing.T) {
	wantCheck(t, "@flow m(i: int rate (5, 0)) returns (o: int) let o = m(i); tel", "m", api.ErrCycle)
	wantCheck(t, "@flow m(i: int rate (5, 0)) returns (o: int) let o = 0 fby m(tail i); tel", "m", api.ErrCycle)
	wantCheck(t, "@flow m(i: int rate (5, 0)) returns (o: int) let o = f(i); tel flow f(i: int) returns (o: int) let o = m(i); tel", "m", api.ErrCycle)
	wantCheck(t, "@flow f(i: int) returns (o: int) let o = m(i); tel flow m(i: int rate (5, 0)) returns (o: int) let o = f(i); tel", "m", api.ErrCycle)
	wantCheck(t, "flow m(i: int rate (5, 0)) returns (o: int) let o = f(i); tel @flow f(i: int) returns (o: int) let o = f(i); tel", "m", api.ErrCycle)
	wantNodes(t, "@flow f(i: int) returns (o: int) var v: int; let v = i; o = n(f(v)); tel node n(i: int) returns (o: int) let o = i; tel", api.ErrCycle)
	// Whatever is wrong elsewhere is told first, in nodes behind too.
	wantNodes(t, "node a(x: int) returns (y: int) let y = a(x); tel node b(x: int) returns (y: int) let y = @w; tel", api.ErrUnknown)
	wantNodes(t, "node a(x: int) returns (y: int) let y = a(x); tel node b(x: int) returns (y: int; @z: int) let y = x; tel", api.ErrUntold)
}

// P7.2: calls wherever they stand, in programs that Check refuses too.
func TestOrderOfAll(t *testing.T) {
	p := program(t, "node a() returns () let tel "+
		"flow b() returns (y: int) let (p, q) = 1; y = tail (0 fby (z *^ 2)); z = z :: f(1, g(if 1 then (c(d(7)) < 2) else 3)); tel "+
		"node c(x: int; x: int) returns () let x = x; x = d(1); tel "+
		"node d(x: int) returns (x: int) let x = a(1); tel")
	wantOrder(t, p, 0, 3, 2, 1)
	wantOrder(t, program(t, "node a() returns () let x = x fby b(1); tel node b() returns () let tel"), 1, 0)
	wantOrder(t, program(t, "node a() returns () let x = b(1) fby x; tel node b() returns () let tel"), 1, 0)
	src, at := unmarked("node b() returns () let tel @node a() returns () let x = 1; (y, z) = b(c(1, 2)); tel flow c() returns () let x = -a(1, 2, 3); tel")
	wantNoOrder(t, src, program(t, src), api.Fault{At: at, Err: api.ErrCycle})
}

// P7.2: as many nodes as may be, in a row, all calling all behind them, and in a ring.
func TestOrderOfMany(t *testing.T) {
	name := func(i int) string { return "n" + strconv.Itoa(i) }
	var row, all, ring []string
	var back []int
	for i := range api.MaxNodes {
		next := ""
		if i+1 < api.MaxNodes {
			next = name(i + 1)
		}
		row = append(row, name(i)+": "+next)
		ring = append(ring, name(i)+": "+name((i+1)%api.MaxNodes))
		var later []string
		for j := i + 1; j < api.MaxNodes; j++ {
			if j-i <= 20 {
				later = append(later, name(j))
			}
		}
		all = append(all, name(i)+": "+strings.Join(later, " "))
		back = append([]int{i}, back...)
	}
	wantOrder(t, graph(strings.Join(row, ";")), back...)
	wantOrder(t, graph(strings.Join(all, ";")), back...)
	wantNoOrder(t, "a ring", graph(strings.Join(ring, ";")), api.Fault{At: 9000, Err: api.ErrCycle})
}
