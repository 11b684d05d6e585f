package tree

import (
	"math"
	"math/rand"
	"strings"
	"testing"

	"carillon/api"
)

// oneEq is a program of the one equation x = e.
func oneEq(e api.Expr) api.Program {
	return withNode(api.Node{Eqs: []api.Eq{{Names: []string{"x"}, E: e}}})
}

// withNode is a program of that one node, named n if it has no name.
func withNode(n api.Node) api.Program {
	if n.Name == "" {
		n.Name = "n"
	}
	return api.Program{Nodes: []api.Node{n}}
}

func param(name string) api.Param { return api.Param{Name: name, Type: api.TInt} }

func repeat[T any](n int, one T) []T {
	list := make([]T, n)
	for i := range list {
		list[i] = one
	}
	return list
}

func wantMay(t *testing.T, what string, p api.Program, want api.Errno) {
	t.Helper()
	if got := May(p); got != want {
		t.Errorf("%s: %v, not %v", what, got, want)
	}
}

func okOr(ok bool, number api.Errno) api.Errno {
	if ok {
		return api.OK
	}
	return number
}

var goodNames = []string{"x", "_", "Z", "a9", "_9", "nodes", "Node", "tel1", strings.Repeat("n", api.MaxName)}

var badNames = []string{
	"", " ", "1", "9x", "x y", " x", "x ", "x-", "x.y", "é", "x\x00", "x\n", "=", "--", "*^",
	"node", "flow", "returns", "var", "let", "tel", "int", "bool", "rate", "due", "if", "then", "else", "and", "or", "not", "true", "false", "fby", "tail",
	strings.Repeat("n", api.MaxName+1), strings.Repeat("n", 1000),
}

// P4.2: an ordinary program, and none.
func TestMayOrdinary(t *testing.T) {
	wantMay(t, "no nodes", api.Program{}, api.OK)
	wantMay(t, "an empty list of nodes", api.Program{Nodes: []api.Node{}}, api.OK)
	wantMay(t, "an empty node", withNode(api.Node{}), api.OK)
	wantMay(t, "an empty flow", withNode(api.Node{Flow: true}), api.OK)
	wantMay(t, "a sample", sample(), api.OK)
	wantMay(t, "empty lists", withNode(api.Node{Ins: []api.Param{}, Outs: []api.Param{}, Vars: []api.Param{}, Eqs: []api.Eq{}}), api.OK)
	wantMay(t, "the chapter's example", oneEq(of(api.ExAdd, number(5))), api.ErrShape)
	wantMay(t, "an expression that is none", oneEq(api.Expr{}), api.ErrShape)
	// What is wrong by names, types and clocks is no matter of shape.
	wantMay(t, "two nodes of one name", api.Program{Nodes: []api.Node{{Name: "n"}, {Name: "n"}}}, api.OK)
	wantMay(t, "names that are told twice, or not", withNode(api.Node{Ins: repeat(2, param("x")), Eqs: repeat(2, api.Eq{Names: []string{"x", "x"}, E: of(api.ExNot, number(1))})}), api.OK)
}

// P4.2: every kind with each number of Args; kinds that there are not.
func TestMayArgs(t *testing.T) {
	for _, kind := range kinds() {
		r := ruleOf(kind)
		for count := range api.MaxArgs + 3 {
			e := right(kind)
			e.Args = times(count, variable("y"))
			want := okOr(r.least <= count && count <= r.most, api.ErrShape)
			if got := May(oneEq(e)); got != want {
				t.Errorf("kind %d of %d Args: %v, not %v", kind, count, got, want)
			}
		}
	}
	for _, kind := range noKinds() {
		for count := range 4 {
			wantMay(t, "no kind", oneEq(of(kind, times(count, variable("y"))...)), api.ErrShape)
		}
	}
	e := right(api.ExVar)
	e.Args = []api.Expr{}
	wantMay(t, "an empty list of Args", oneEq(e), api.OK)
	wantMay(t, "a call with an empty list", oneEq(api.Expr{Kind: api.ExCall, Name: "f", Args: []api.Expr{}}), api.ErrShape)
}

// P4.2: every kind with each Name, Int and Den at the edges; At may be anything.
func TestMayFields(t *testing.T) {
	edges := []int64{math.MinInt64, -2, -1, 0, 1, 2, 3, math.MaxInt64}
	for _, kind := range kinds() {
		r := ruleOf(kind)
		for _, name := range []string{"", "f", "fby", "1"} {
			for _, n := range edges {
				for _, den := range edges {
					e := right(kind)
					e.Name, e.Int, e.Den, e.At = name, n, den, int(-n)
					named := name == ""
					if r.name {
						named = name == "f"
					}
					want := okOr(named && r.int(n) && r.den(den), api.ErrShape)
					if got := May(oneEq(e)); got != want {
						t.Errorf("kind %d, %q, %d, %d: %v, not %v", kind, name, n, den, got, want)
					}
				}
			}
		}
	}
}

// P4.2: what may not be is found in each place of Args of every kind, and deep within.
func TestMayWithin(t *testing.T) {
	wrong := []api.Expr{{}, number(-1), variable("let"), of(api.ExNot), call("f"), of(api.ExUp, number(1)), {Kind: 27}}
	for _, kind := range kinds() {
		for place := range right(kind).Args {
			for _, w := range wrong {
				e := right(kind)
				e.Args[place] = w
				wantMay(t, "an Arg that may not be", oneEq(e), api.ErrShape)
				e.Args[place] = of(api.ExAdd, number(1), call("f", number(2), of(api.ExNeg, w)))
				wantMay(t, "within an Arg", oneEq(e), api.ErrShape)
			}
			e := right(kind)
			e.Args[place] = right(api.ExLate)
			wantMay(t, "an Arg that may be", oneEq(e), api.OK)
		}
	}
	for place := range api.MaxArgs {
		e := call("f", times(api.MaxArgs, number(1))...)
		e.Args[place].Den = 1
		wantMay(t, "one of many Args", oneEq(e), api.ErrShape)
	}
}

// P4.2: names of every place where they stand.
func TestMayNames(t *testing.T) {
	try := func(name string, want api.Errno) {
		t.Helper()
		wantMay(t, "a variable "+name, oneEq(variable(name)), want)
		wantMay(t, "a call "+name, oneEq(call(name, number(1))), want)
		wantMay(t, "a node "+name, api.Program{Nodes: []api.Node{{Name: "n"}, {Name: name}}}, want)
		wantMay(t, "a flow "+name, api.Program{Nodes: []api.Node{{Name: name, Flow: true}, {Name: "n"}}}, want)
		list := []api.Param{param("a"), param(name), param("b")}
		for _, flow := range []bool{false, true} {
			wantMay(t, "an input "+name, withNode(api.Node{Flow: flow, Ins: list}), want)
			wantMay(t, "an output "+name, withNode(api.Node{Flow: flow, Outs: list}), want)
			wantMay(t, "a variable that is told "+name, withNode(api.Node{Flow: flow, Vars: list}), want)
		}
		wantMay(t, "of an equation "+name, withNode(api.Node{Eqs: []api.Eq{{Names: []string{name}, E: number(1)}}}), want)
		wantMay(t, "of an equation of several "+name, withNode(api.Node{Eqs: []api.Eq{{Names: []string{"a", "b"}, E: number(1)}, {Names: []string{"a", name}, E: number(1)}}}), want)
	}
	for _, name := range goodNames {
		try(name, api.OK)
	}
	for _, name := range badNames {
		try(name, api.ErrShape)
	}
}

// P4.2: params with all that they may and may not have, in every place.
func TestMayParams(t *testing.T) {
	edges := []int64{math.MinInt64, -1, 0, 1, 2, math.MaxInt64}
	for _, rate := range []bool{false, true} {
		for _, period := range edges {
			for _, start := range edges {
				for _, due := range edges {
					p := api.Param{Name: "p", Type: api.TBool, At: -1, Rate: rate, Period: period, Start: start, Due: due}
					ok := due >= 0 && period == 0 && start == 0
					if rate {
						ok = due >= 0 && period > 0 && start >= 0
					}
					tryParam(t, p, ok)
				}
			}
		}
	}
	for kind := range 256 {
		p := param("p")
		p.Type = uint8(kind)
		tryParam(t, p, p.Type == api.TInt || p.Type == api.TBool)
	}
}

// tryParam asks of a param in every place; ok is whether it may be somewhere.
func tryParam(t *testing.T, p api.Param, ok bool) {
	t.Helper()
	list := []api.Param{param("a"), p}
	for _, flow := range []bool{false, true} {
		for _, x := range []struct {
			n         api.Node
			rate, due bool
		}{
			{api.Node{Flow: flow, Ins: list}, flow, false},
			{api.Node{Flow: flow, Outs: list}, false, flow},
			{api.Node{Flow: flow, Vars: list}, false, false},
		} {
			want := okOr(ok && (x.rate || !p.Rate) && (x.due || p.Due == 0), api.ErrShape)
			if got := May(withNode(x.n)); got != want {
				t.Errorf("%v: %v, not %v", x.n, got, want)
			}
		}
	}
}

// P4.2
func TestMayEquations(t *testing.T) {
	for count := range api.MaxArgs + 3 {
		q := api.Eq{Names: repeat(count, "x"), At: -5, E: number(1)}
		want := okOr(1 <= count && count <= api.MaxArgs, api.ErrShape)
		wantMay(t, "so many names", withNode(api.Node{Eqs: []api.Eq{q}}), want)
	}
	wantMay(t, "an empty list of names", withNode(api.Node{Eqs: []api.Eq{{Names: []string{}, E: number(1)}}}), api.ErrShape)
	good, bad := api.Eq{Names: []string{"x"}, E: number(1)}, api.Eq{Names: []string{"x"}, E: number(-1)}
	wantMay(t, "the last equation", withNode(api.Node{Eqs: []api.Eq{good, good, bad}}), api.ErrShape)
	wantMay(t, "the first equation", withNode(api.Node{Eqs: []api.Eq{bad, good, good}}), api.ErrShape)
	wantMay(t, "the last node's", api.Program{Nodes: []api.Node{{Name: "n", Eqs: []api.Eq{good}}, {Name: "m", Flow: true, Eqs: []api.Eq{bad}}}}, api.ErrShape)
}

// P4.2: each list at its bound, and one more.
func TestMayLists(t *testing.T) {
	q := api.Eq{Names: []string{"x"}, E: number(1)}
	for more := range 2 {
		want := okOr(more == 0, api.ErrBig)
		params := repeat(api.MaxParams+more, param("x"))
		eqs := repeat(api.MaxEqs+more, q)
		wantMay(t, "nodes", api.Program{Nodes: repeat(api.MaxNodes+more, api.Node{Name: "n"})}, want)
		for _, n := range []api.Node{{Ins: params}, {Outs: params}, {Vars: params}, {Eqs: eqs}} {
			n.Name = "n"
			wantMay(t, "a list of a node", withNode(n), want)
			wantMay(t, "a list of the last node", api.Program{Nodes: []api.Node{{Name: "a"}, {Name: "b"}, n}}, want)
			n.Flow = true
			wantMay(t, "a list of a flow", withNode(n), want)
		}
	}
	full := repeat(api.MaxParams, param("x"))
	node := api.Node{Name: "n", Ins: full, Outs: full, Vars: full, Eqs: repeat(api.MaxEqs, q)}
	wantMay(t, "all lists at their bounds", withNode(node), api.OK)
}

// P4.2
func TestMayDepth(t *testing.T) {
	for depth := api.MaxDepth - 2; depth < api.MaxDepth+3; depth++ {
		want := okOr(depth <= api.MaxDepth, api.ErrDeep)
		wantMay(t, "a chain", oneEq(chain(depth)), want)
		wantMay(t, "to the right", oneEq(of(api.ExAdd, number(1), chain(depth-1))), want)
		wantMay(t, "in the middle", oneEq(of(api.ExIf, number(1), chain(depth-1), number(2))), want)
		q := api.Eq{Names: []string{"x"}, E: number(1)}
		deep := api.Eq{Names: []string{"x"}, E: chain(depth)}
		wantMay(t, "the last equation", withNode(api.Node{Eqs: []api.Eq{q, deep}}), want)
		wantMay(t, "the first node", api.Program{Nodes: []api.Node{{Name: "n", Eqs: []api.Eq{deep, q}}, {Name: "m"}}}, want)
	}
	// Depths are not put together.
	wantMay(t, "two of the greatest depth", oneEq(of(api.ExAdd, chain(api.MaxDepth-1), chain(api.MaxDepth-1))), api.OK)
}

// sized is an expression of that size, of a depth far below MaxDepth.
func sized(size int) api.Expr {
	if size == 1 {
		return number(1)
	}
	if size == 2 {
		return of(api.ExNeg, number(1))
	}
	left := (size - 1) / 2
	return of(api.ExAdd, sized(left), sized(size-1-left))
}

// P4.2
func TestMaySize(t *testing.T) {
	for size := api.MaxSize - 2; size < api.MaxSize+3; size++ {
		want := okOr(size <= api.MaxSize, api.ErrBig)
		wantMay(t, "one expression", oneEq(sized(size)), want)
		half := api.Eq{Names: []string{"x"}, E: sized(size / 2)}
		rest := api.Eq{Names: []string{"x", "y"}, E: sized(size - size/2)}
		wantMay(t, "two equations", withNode(api.Node{Eqs: []api.Eq{half, rest}}), want)
		wantMay(t, "two nodes", api.Program{Nodes: []api.Node{{Name: "n", Eqs: []api.Eq{half}}, {Name: "m", Flow: true, Eqs: []api.Eq{rest}}}}, want)
	}
	q := api.Eq{Names: []string{"x"}, E: number(1)}
	nodes := repeat(api.MaxSize/api.MaxEqs, api.Node{Name: "n", Eqs: repeat(api.MaxEqs, q)})
	wantMay(t, "many small ones", api.Program{Nodes: nodes}, api.OK)
	wantMay(t, "one more", api.Program{Nodes: append(nodes, api.Node{Name: "n", Eqs: []api.Eq{q}})}, api.ErrBig)
}

// P4.2: of several faults, wherever they stand, which is told.
func TestMayFirst(t *testing.T) {
	eq := func(e api.Expr) api.Node {
		return api.Node{Name: "n", Eqs: []api.Eq{{Names: []string{"x"}, E: e}}}
	}
	faults := []struct {
		number api.Errno
		nodes  []api.Node
	}{
		{api.ErrBig, repeat(api.MaxNodes+1, api.Node{Name: "n"})},
		{api.ErrBig, []api.Node{{Name: "n", Ins: repeat(api.MaxParams+1, param("x"))}}},
		{api.ErrBig, []api.Node{{Name: "n", Outs: repeat(api.MaxParams+1, param("x"))}}},
		{api.ErrBig, []api.Node{{Name: "n", Vars: repeat(api.MaxParams+1, param("x"))}}},
		{api.ErrBig, []api.Node{{Name: "n", Eqs: repeat(api.MaxEqs+1, api.Eq{Names: []string{"x"}, E: number(1)})}}},
		{api.ErrShape, []api.Node{{Name: "let"}}},
		{api.ErrShape, []api.Node{{Name: "n", Vars: []api.Param{{Name: "x"}}}}},
		{api.ErrShape, []api.Node{{Name: "n", Eqs: []api.Eq{{E: number(1)}}}}},
		{api.ErrShape, []api.Node{eq(number(-1))}},
		{api.ErrDeep, []api.Node{eq(chain(api.MaxDepth + 1))}},
		{api.ErrBig, []api.Node{eq(sized(api.MaxSize + 1))}},
	}
	for i, a := range faults {
		for j, b := range faults {
			nodes := append(append([]api.Node{{Name: "first"}}, a.nodes...), b.nodes...)
			if got := May(api.Program{Nodes: nodes}); got != faults[min(i, j)].number {
				t.Errorf("faults %d and %d: %v", i, j, got)
			}
		}
	}
	within := func(e api.Expr) api.Expr { return of(api.ExAdd, sized(api.MaxSize), e) }
	wantMay(t, "big and deep", oneEq(within(chain(api.MaxDepth))), api.ErrDeep)
	wantMay(t, "big and wrong", oneEq(within(of(0))), api.ErrShape)
	wantMay(t, "big, deep and wrong", oneEq(within(of(api.ExAdd, chain(api.MaxDepth), of(0)))), api.ErrShape)
	deep := chain(api.MaxDepth)
	deep = of(api.ExNeg, of(api.ExTail, deep))
	at := &deep
	for len(at.Args) > 0 {
		at = &at.Args[0]
	}
	at.Name = "let"
	wantMay(t, "wrong beyond the depth that may be", oneEq(deep), api.ErrShape)
	wantMay(t, "too many Args, and too great", oneEq(call("f", repeat(api.MaxSize+1, number(1))...)), api.ErrShape)
}

func plainShape(e api.Expr) bool {
	if e.Kind < api.ExVar || e.Kind > api.ExLate {
		return false
	}
	r := ruleOf(e.Kind)
	ok := len(e.Args) >= r.least && len(e.Args) <= r.most && r.int(e.Int) && r.den(e.Den)
	if r.name {
		ok = ok && e.Name != "" && e.Name != "fby" && e.Name != "1"
	} else {
		ok = ok && e.Name == ""
	}
	for _, a := range e.Args {
		ok = ok && plainShape(a)
	}
	return ok
}

// P4.2: trees of all kinds, against a function that calls itself.
func TestMayMade(t *testing.T) {
	r := rand.New(rand.NewSource(5))
	told := map[api.Errno]int{}
	for range 4000 {
		e := shape(r, 1+r.Intn(7))
		want := okOr(plainShape(e), api.ErrShape)
		if want == api.OK && plainSize(e) > api.MaxSize {
			want = api.ErrBig
		}
		told[want]++
		if got := May(oneEq(e)); got != want {
			t.Fatalf("%v: %v, not %v", e, got, want)
		}
	}
	if told[api.OK] < 500 || told[api.ErrShape] < 500 {
		t.Errorf("too few of a kind: %v", told)
	}
}
