package show

import (
	"math"
	"reflect"
	"strings"
	"testing"

	"carillon/api"
	"carillon/tree"
)

func param(name string) api.Param { return api.Param{Name: name, Type: api.TInt} }
func truths(name string) api.Param {
	return api.Param{Name: name, Type: api.TBool}
}

func rated(p api.Param, period, start int64) api.Param {
	p.Rate, p.Period, p.Start = true, period, start
	return p
}

func due(p api.Param, at int64) api.Param {
	p.Due = at
	return p
}

func eq(e api.Expr, names ...string) api.Eq { return api.Eq{Names: names, E: e} }

func program(nodes ...api.Node) api.Program { return api.Program{Nodes: nodes} }

func wantProgram(t *testing.T, p api.Program, want string) {
	t.Helper()
	if got, no := Program(p); got != want || no != api.OK {
		t.Errorf("%q, %v, not %q", got, no, want)
	}
}

func wantNoProgram(t *testing.T, what string, p api.Program, want api.Errno) {
	t.Helper()
	if got, no := Program(p); got != "" || no != want {
		t.Errorf("%s: %d bytes, %v, not %v", what, len(got), no, want)
	}
}

// sample has one of everything.
func sample() api.Program {
	x, y := variable("x"), variable("y")
	return program(
		api.Node{
			Name: "f", At: 1,
			Ins:  []api.Param{param("x"), truths("y")},
			Outs: []api.Param{param("o")},
			Vars: []api.Param{param("v"), truths("w")},
			Eqs:  []api.Eq{eq(choice(y, sum(x, number(2)), neg(x)), "o"), eq(call("g", x, y), "v", "w")},
		},
		api.Node{
			Name: "main", Flow: true, At: 99,
			Ins:  []api.Param{rated(param("i"), 10, 0), truths("j")},
			Outs: []api.Param{due(param("o"), 8), param("q")},
			Eqs:  []api.Eq{eq(call("f", up(fby(number(0), x), 2), late(truth(1), 1, 2)), "o")},
		},
	)
}

const sampleText = `node f(x: int; y: bool) returns (o: int)
var v: int; w: bool;
let
  o = if y then x + 2 else -x;
  (v, w) = g(x, y);
tel
flow main(i: int rate (10, 0); j: bool) returns (o: int due 8; q: int)
let
  o = f((0 fby x) *^ 2, true ~> 1/2);
tel
`

// P5.2: ordinary programs; no node, one, several.
func TestPrograms(t *testing.T) {
	wantProgram(t, sample(), sampleText)
	wantProgram(t, program(), "")
	wantProgram(t, api.Program{Nodes: []api.Node{}}, "")
	empty := "node n() returns ()\nlet\ntel\n"
	wantProgram(t, program(api.Node{Name: "n"}), empty)
	wantProgram(t, program(api.Node{Name: "n", Flow: true}), "flow n() returns ()\nlet\ntel\n")
	wantProgram(t, program(api.Node{Name: "n", Ins: []api.Param{}, Outs: []api.Param{}, Vars: []api.Param{}, Eqs: []api.Eq{}}), empty)
	wantProgram(t, program(repeat(api.MaxNodes, api.Node{Name: "n"})...), strings.Repeat(empty, api.MaxNodes))
	wantProgram(t, program(api.Node{Name: "b"}, api.Node{Name: "a", Flow: true}), "node b() returns ()\nlet\ntel\nflow a() returns ()\nlet\ntel\n")
}

// P5.2: a node without each of its lists, by itself.
func TestNodeWithoutLists(t *testing.T) {
	full := api.Node{Name: "n", Ins: []api.Param{param("i")}, Outs: []api.Param{param("o")}, Vars: []api.Param{truths("v")}, Eqs: []api.Eq{eq(number(1), "o")}}
	ins, outs, vars, eqs := full, full, full, full
	ins.Ins, outs.Outs, vars.Vars, eqs.Eqs = nil, nil, nil, nil
	wantProgram(t, program(full), "node n(i: int) returns (o: int)\nvar v: bool;\nlet\n  o = 1;\ntel\n")
	wantProgram(t, program(ins), "node n() returns (o: int)\nvar v: bool;\nlet\n  o = 1;\ntel\n")
	wantProgram(t, program(outs), "node n(i: int) returns ()\nvar v: bool;\nlet\n  o = 1;\ntel\n")
	wantProgram(t, program(vars), "node n(i: int) returns (o: int)\nlet\n  o = 1;\ntel\n")
	wantProgram(t, program(eqs), "node n(i: int) returns (o: int)\nvar v: bool;\nlet\ntel\n")
}

// P5.2: rates and deadlines.
func TestRatesAndDues(t *testing.T) {
	of := func(in, out api.Param) api.Program {
		return program(api.Node{Flow: true, Name: "m", Ins: []api.Param{in}, Outs: []api.Param{out}})
	}
	text := func(in, out string) string {
		return "flow m(" + in + ") returns (" + out + ")\nlet\ntel\n"
	}
	i, o := param("i"), truths("o")
	wantProgram(t, of(i, o), text("i: int", "o: bool"))
	wantProgram(t, of(i, due(o, 0)), text("i: int", "o: bool"))
	wantProgram(t, of(i, due(o, 1)), text("i: int", "o: bool due 1"))
	wantProgram(t, of(i, due(o, math.MaxInt64)), text("i: int", "o: bool due 9223372036854775807"))
	wantProgram(t, of(rated(i, 1, 0), o), text("i: int rate (1, 0)", "o: bool"))
	wantProgram(t, of(rated(i, 10, 3), due(o, 8)), text("i: int rate (10, 3)", "o: bool due 8"))
	wantProgram(t, of(rated(o, math.MaxInt64, math.MaxInt64), i), text("o: bool rate (9223372036854775807, 9223372036854775807)", "i: int"))
}

// P5.2: params and equations of one, of two and of as many as may be.
func TestManyParamsAndNames(t *testing.T) {
	long := strings.Repeat("n", api.MaxName)
	many := strings.Repeat("x: int; ", api.MaxParams-1) + "x: int"
	list := repeat(api.MaxParams, param("x"))
	wantProgram(t, program(api.Node{Name: long, Ins: list, Outs: list, Vars: list}), "node "+long+"("+many+") returns ("+many+")\nvar "+many+";\nlet\ntel\n")
	eqs := func(list ...api.Eq) api.Program { return program(api.Node{Name: "n", Eqs: list}) }
	text := func(lines ...string) string {
		return "node n() returns ()\nlet\n" + strings.Join(lines, "") + "tel\n"
	}
	one := number(1)
	wantProgram(t, eqs(eq(one, "x")), text("  x = 1;\n"))
	wantProgram(t, eqs(eq(one, "x", "y")), text("  (x, y) = 1;\n"))
	wantProgram(t, eqs(eq(one, repeat(api.MaxArgs, "x")...)), text("  (", strings.Repeat("x, ", api.MaxArgs-1), "x) = 1;\n"))
	wantProgram(t, eqs(eq(of(api.ExEq, one, one), "x")), text("  x = 1 = 1;\n"))
	wantProgram(t, eqs(eq(choice(one, one, one), "y"), eq(one, "x")), text("  y = if 1 then 1 else 1;\n", "  x = 1;\n"))
	wantProgram(t, eqs(repeat(api.MaxEqs, eq(one, "x"))...), text(strings.Repeat("  x = 1;\n", api.MaxEqs)))
}

// longProgram is a program whose text has so many bytes.
func longProgram(t *testing.T, bytes int) api.Program {
	p := sample()
	text, no := Program(p)
	if no != api.OK {
		t.Fatal(no)
	}
	p.Nodes[0].Eqs[0].E = longExpr(t, bytes-len(text)+len("if y then x + 2 else -x"))
	return p
}

// P5.2: texts as long as may be, and longer, by an expression, by nodes and by equations.
func TestProgramLong(t *testing.T) {
	for _, less := range []int{2, 1, 0} {
		text, no := Program(longProgram(t, api.MaxSource-less))
		if no != api.OK || len(text) != api.MaxSource-less {
			t.Errorf("%d bytes, %v", len(text), no)
		}
	}
	for _, more := range []int{1, 2, 1000} {
		wantNoProgram(t, "too long", longProgram(t, api.MaxSource+more), api.ErrLong)
	}
	// Each line of these equations has 16 bytes, all else of a node 30.
	line := eq(number(1), "abcdefgh")
	nodes := repeat(32, api.Node{Name: "abc", Eqs: repeat(api.MaxEqs, line)})
	nodes[31].Eqs = nodes[31].Eqs[:(api.MaxSource-32*30)/16-31*api.MaxEqs]
	fits := program(nodes...)
	if text, no := Program(fits); no != api.OK || len(text) != api.MaxSource {
		t.Errorf("%d bytes, %v", len(text), no)
	}
	fits.Nodes[31].Flow = true // as long a word
	if text, no := Program(fits); no != api.OK || len(text) != api.MaxSource {
		t.Errorf("%d bytes, %v", len(text), no)
	}
	fits.Nodes[0].Name += "d"
	wantNoProgram(t, "one more byte of a node's name", fits, api.ErrLong)
	wantNoProgram(t, "as much as may be", greatest(), api.ErrLong)
}

// greatest is a program of as many nodes, params, equations and names as may be, all names as long as may be.
func greatest() api.Program {
	name := strings.Repeat("n", api.MaxName)
	params := repeat(api.MaxParams, truths(name))
	eqs := repeat(api.MaxSize/api.MaxNodes, eq(number(math.MaxInt64), repeat(api.MaxArgs, name)...))
	return program(repeat(api.MaxNodes, api.Node{Name: name, Ins: params, Outs: params, Vars: params, Eqs: eqs})...)
}

// P5.2: each error of layer 4, and those ahead of ErrLong.
func TestProgramErrors(t *testing.T) {
	for _, long := range []bool{false, true} {
		base := sample
		if long {
			base = func() api.Program { return longProgram(t, api.MaxSource+1) }
		}
		try := func(what string, want api.Errno, change func(p *api.Program, n *api.Node)) {
			p := base()
			change(&p, &p.Nodes[1])
			wantNoProgram(t, what, p, want)
		}
		try("nodes", api.ErrBig, func(p *api.Program, _ *api.Node) {
			p.Nodes = append(p.Nodes, repeat(api.MaxNodes-1, api.Node{Name: "n"})...)
		})
		try("inputs", api.ErrBig, func(_ *api.Program, n *api.Node) { n.Ins = repeat(api.MaxParams+1, param("i")) })
		try("outputs", api.ErrBig, func(_ *api.Program, n *api.Node) { n.Outs = repeat(api.MaxParams+1, param("i")) })
		try("variables", api.ErrBig, func(_ *api.Program, n *api.Node) { n.Vars = repeat(api.MaxParams+1, param("i")) })
		try("equations", api.ErrBig, func(_ *api.Program, n *api.Node) { n.Eqs = repeat(api.MaxEqs+1, eq(number(1), "x")) })
		try("a node's name", api.ErrShape, func(_ *api.Program, n *api.Node) { n.Name = "node" })
		try("a param's name", api.ErrShape, func(_ *api.Program, n *api.Node) { n.Ins[0].Name = "" })
		try("a type", api.ErrShape, func(_ *api.Program, n *api.Node) { n.Ins[0].Type = 3 })
		try("a period", api.ErrShape, func(_ *api.Program, n *api.Node) { n.Ins[0].Period = 0 })
		try("a rate of an output", api.ErrShape, func(_ *api.Program, n *api.Node) { n.Outs[0] = rated(param("o"), 1, 0) })
		try("a due of an input", api.ErrShape, func(_ *api.Program, n *api.Node) { n.Ins[0].Due = 1 })
		try("a due below 0", api.ErrShape, func(_ *api.Program, n *api.Node) { n.Outs[0].Due = -1 })
		try("a rate of a node", api.ErrShape, func(_ *api.Program, n *api.Node) { n.Flow = false })
		try("no names", api.ErrShape, func(_ *api.Program, n *api.Node) { n.Eqs[0].Names = nil })
		try("too many names", api.ErrShape, func(_ *api.Program, n *api.Node) { n.Eqs[0].Names = repeat(api.MaxArgs+1, "x") })
		try("an expression", api.ErrShape, func(_ *api.Program, n *api.Node) { n.Eqs[0].E = of(api.ExAdd, number(1)) })
		try("too deep", api.ErrDeep, func(_ *api.Program, n *api.Node) { n.Eqs[0].E = chain(api.MaxDepth + 1) })
		try("too great", api.ErrBig, func(_ *api.Program, n *api.Node) { n.Eqs[0].E = wide(api.MaxSize, "x") })
	}
}

// R5: what is handed in is left as it is.
func TestProgramLeavesArguments(t *testing.T) {
	p := sample()
	text, _ := Program(p)
	if !reflect.DeepEqual(p, sample()) {
		t.Error("changed what was handed in")
	}
	again, _ := Program(tree.CopyProgram(p))
	if text != again {
		t.Errorf("%q, then %q", text, again)
	}
}
