package flat

import (
	"errors"
	"reflect"
	"strconv"
	"strings"
	"testing"

	"carillon/api"
	"carillon/bind"
	"carillon/parse"
	"carillon/show"
	"carillon/tree"
)

func program(t *testing.T, src string) api.Program {
	t.Helper()
	p, err := parse.Program(src)
	if err != nil {
		t.Fatalf("%q: %v", src, err)
	}
	return p
}

// flattened is the flow m of p, which must be right; what is flattened may be (P8.3), and p stays as it was (R5).
func flattened(t *testing.T, p api.Program) api.Flat {
	t.Helper()
	before := tree.CopyProgram(p)
	f, err := Flatten(p, "m")
	if err != nil {
		t.Fatalf("not flattened: %v", err)
	}
	if !reflect.DeepEqual(p, before) {
		t.Error("a program was changed")
	}
	wantFlattened(t, p, f)
	return f
}

// wantFlattened asks what follows (P8.3), and that an answer can be copied.
func wantFlattened(t *testing.T, p api.Program, f api.Flat) {
	t.Helper()
	if e := May(f); e != api.OK {
		t.Errorf("what is flattened may not be: %v", e)
	}
	if again := Copy(f); !Same(f, again) || !reflect.DeepEqual(f, again) {
		t.Error("a copy is not the same")
	}
	for _, n := range p.Nodes {
		if n.Name == "m" {
			wantMain(t, n, f)
		}
	}
}

// wantMain asks that the variables of n, which is main, stand at their own places.
func wantMain(t *testing.T, n api.Node, f api.Flat) {
	t.Helper()
	at := 0
	for _, list := range [][]api.Param{n.Ins, n.Outs, n.Vars} {
		for _, v := range list {
			if want := (api.FlatVar{Name: v.Name, Type: v.Type, At: v.At}); f.Vars[at] != want {
				t.Errorf("variable %d is %v, not %v", at, f.Vars[at], want)
			}
			at++
		}
	}
	for i, v := range n.Ins {
		if want := (api.FlatIn{Var: i, Period: v.Period, Start: v.Start}); f.Ins[i] != want {
			t.Errorf("input %d is %v, not %v", i, f.Ins[i], want)
		}
	}
	for i, v := range n.Outs {
		want := api.FlatOut{Name: v.Name, Type: v.Type, From: api.Chain{Var: len(n.Ins) + i, At: v.At}, Due: v.Due, At: v.At}
		if !reflect.DeepEqual(f.Outs[i], want) {
			t.Errorf("output %d is %v, not %v", i, f.Outs[i], want)
		}
	}
	if len(f.Ins) != len(n.Ins) || len(f.Outs) != len(n.Outs) {
		t.Errorf("%d inputs, %d outputs", len(f.Ins), len(f.Outs))
	}
}

// wantFault asks of an error, and what is beside it, what R2 and R7 say.
func wantFault(t *testing.T, what string, p api.Program, want api.Fault) {
	t.Helper()
	f, err := Flatten(p, "m")
	var told api.Fault
	if !errors.As(err, &told) || told != want {
		t.Errorf("%s: %v, not %v", what, err, want)
		return
	}
	if _, is := err.(api.Fault); is || err.Error() == "" {
		t.Errorf("%s: a fault that nothing wraps, or without a text", what)
	}
	for n := range api.Errno(100) {
		if errors.Is(err, n) != (n == want.Err) {
			t.Errorf("%s: errors.Is(%v, %d) is %v", what, err, n, n != want.Err)
		}
	}
	if !reflect.DeepEqual(f, api.Flat{}) {
		t.Errorf("%s: a flat program beside %v", what, err)
	}
}

func typeText(t uint8) string { return []string{"none", "int", "bool"}[t] }

func valueText(val int64, t uint8) string {
	if t == api.TBool {
		return strconv.FormatBool(val == 1)
	}
	return strconv.FormatInt(val, 10)
}

// linkText is a link as it stands in a text that says links in their order.
func linkText(l api.Link) string {
	k := strconv.FormatInt(l.K, 10)
	switch l.Kind {
	case api.LinkFby:
		return "fby " + valueText(l.Val, l.Type)
	case api.LinkCons:
		return ":: " + valueText(l.Val, l.Type)
	case api.LinkTail:
		return "tail"
	case api.LinkUp:
		return "*^ " + k
	case api.LinkDown:
		return "/^ " + k
	}
	return "~> " + k + "/" + strconv.FormatInt(l.Den, 10)
}

// chainText has a variable by its name, and the links behind it, the first one first.
func chainText(f api.Flat, c api.Chain) string {
	text := f.Vars[c.Var].Name
	for _, l := range c.Links {
		text += " " + linkText(l)
	}
	return text
}

func varsText(f api.Flat) string {
	var all []string
	for _, v := range f.Vars {
		all = append(all, v.Name+" "+typeText(v.Type))
	}
	return strings.Join(all, ", ")
}

// equationsText has the calls, and behind them the copies.
func equationsText(f api.Flat) string {
	var all []string
	for _, c := range f.Calls {
		var outs, args []string
		for _, v := range c.Outs {
			outs = append(outs, f.Vars[v].Name)
		}
		for _, arg := range c.Args {
			args = append(args, chainText(f, arg))
		}
		all = append(all, strings.Join(outs, ", ")+" = "+f.Bodies[c.Body].Name+"("+strings.Join(args, ", ")+")")
	}
	for _, c := range f.Copies {
		all = append(all, f.Vars[c.Var].Name+" = "+chainText(f, c.From))
	}
	return strings.Join(all, "; ")
}

// named is e, which has v3 for the variable 3, and so on.
func named(e api.Expr) api.Expr {
	e = tree.Copy(e)
	if e.Kind == api.ExVar {
		e.Name, e.Int = "v"+strconv.FormatInt(e.Int, 10), 0
	}
	for i := range e.Args {
		e.Args[i] = named(e.Args[i])
	}
	return e
}

// bodyText has the variables v0, v1 and so on: their types, what they are, and which are the outputs.
func bodyText(t *testing.T, b api.Body) string {
	t.Helper()
	text := b.Name + "("
	for i, v := range b.Vars {
		if i > 0 && i != b.Ins {
			text += " "
		}
		if i == b.Ins {
			text += ") "
		}
		text += typeText(v)
	}
	for _, q := range b.Eqs {
		right, number := show.Expr(named(q.E))
		if number != api.OK {
			t.Fatalf("no expression: %v", q.E)
		}
		text += "; v" + strconv.Itoa(q.Var) + " = " + right
	}
	text += ";"
	for _, v := range b.Outs {
		text += " v" + strconv.Itoa(v)
	}
	return text
}

// callable is what the tests' flows call: nodes f, g, h, and flows s, t, u, r.
const callable = `
node f(x: int) returns (y: int) let y = x + 1; tel
node g(x: int; w: bool) returns (y: int; z: bool) let y = x; z = w; tel
node h(x: int; w: int) returns (y: bool) let y = x < w; tel
flow s(a: int) returns (b: int) let b = 0 fby a; tel
flow t(a: int; c: bool) returns (b: int; d: bool) var e: int; let e = f(a); b = tail e; d = c; tel
flow u(a: int) returns (b: int) let b = s(f(a)); tel
flow r(a: int) returns (b: int) var e: int; let e = s(a) *^ 2; b = u(e); tel
`

// inMain is a program of those, and of a flow main with these variables and equations behind its inputs i and j, and its output o.
func inMain(vars, eqs string) string {
	if vars != "" {
		vars = "var " + vars + ";"
	}
	return callable + "flow m(i: int rate (6, 0); j: bool rate (4, 2)) returns (o: int) " + vars + " let " + eqs + " tel"
}

// wantEquations asks what comes of main's equations: the variables behind main's own, the calls and the copies.
func wantEquations(t *testing.T, vars, eqs, wantVars, want string) {
	t.Helper()
	p := program(t, inMain(vars, eqs))
	f := flattened(t, p)
	own := []string{"i int, j bool, o int"}
	if vars != "" {
		own = append(own, strings.ReplaceAll(strings.ReplaceAll(vars, ";", ","), ":", ""))
	}
	if wantVars != "" {
		own = append(own, wantVars)
	}
	if got := varsText(f); got != strings.Join(own, ", ") {
		t.Errorf("%s: variables %q, not %q", eqs, got, strings.Join(own, ", "))
	}
	if got := equationsText(f); got != want {
		t.Errorf("%s: %q, not %q", eqs, got, want)
	}
}

// P8.1: the chapter's examples.
func TestExamples(t *testing.T) {
	wantEquations(t, "", "o = f(i *^ 2);", "", "o = f(i *^ 2)")
	wantEquations(t, "", "o = f(f(i));", "f.2 int", "f.2 = f(i); o = f(f.2)")
	wantEquations(t, "v: int", "v = 0 fby v; o = v;", "", "v = v fby 0; o = v")
	src := "node f(x: int) returns (y: int) var z: int; let y = z; z = y; tel flow m(i: int rate (5, 0)) returns (o: int) let o = f(i); tel"
	wantFault(t, "a ring in a node", program(t, src), api.Fault{At: strings.Index(src, "y = z"), Err: api.ErrLoop})
}

// P8.1: copies of inputs, outputs and variables; names on the right stand for what the flow has.
func TestCopies(t *testing.T) {
	wantEquations(t, "", "o = i;", "", "o = i")
	wantEquations(t, "", "o = o;", "", "o = o")
	wantEquations(t, "v: int; w: bool", "w = j; v = o; o = v;", "", "w = j; v = o; o = v")
	wantEquations(t, "v: bool", "o = i; v = i;", "", "o = i; v = i") // types are no matter here
	wantEquations(t, "v: int; s: int; f: int", "f = s; v = f; s = v; o = s;", "", "f = s; v = f; s = v; o = s")
}

// P8.1: each link alone, literals of both types, and several links in one chain.
func TestChains(t *testing.T) {
	for _, c := range [][2]string{
		{"0 fby i", "i fby 0"},
		{"7 fby i", "i fby 7"},
		{"-7 fby i", "i fby -7"},
		{"-0 fby i", "i fby 0"},
		{"9223372036854775807 fby i", "i fby 9223372036854775807"},
		{"-9223372036854775807 fby i", "i fby -9223372036854775807"},
		{"true fby j", "j fby true"},
		{"false fby j", "j fby false"},
		{"5 :: i", "i :: 5"},
		{"-5 :: i", "i :: -5"},
		{"true :: i", "i :: true"},
		{"false :: j", "j :: false"},
		{"tail i", "i tail"},
		{"i *^ 1", "i *^ 1"},
		{"i *^ 3", "i *^ 3"},
		{"i /^ 1", "i /^ 1"},
		{"i /^ 4", "i /^ 4"},
		{"i ~> 1/2", "i ~> 1/2"},
		{"i ~> 0/5", "i ~> 0/5"},
		{"i ~> 6/4", "i ~> 6/4"},
		{"tail (0 fby i)", "i fby 0 tail"},
		{"0 fby (tail i)", "i tail fby 0"},
		{"1 fby 2 fby 3 :: tail i", "i tail :: 3 fby 2 fby 1"},
		{"(tail (i *^ 2)) /^ 3", "i *^ 2 tail /^ 3"},
		{"true :: -1 fby (((tail j) *^ 2 /^ 3) ~> 4/5)", "j tail *^ 2 /^ 3 ~> 4/5 fby -1 :: true"},
		{"tail tail tail i", "i tail tail tail"},
		{"tail f(i)", "f.1 tail"},
		{"f(tail i) *^ 2", "f.1 *^ 2"},
	} {
		f := flattened(t, program(t, inMain("", "o = "+c[0]+";")))
		if got := chainText(f, f.Copies[0].From); got != c[1] || f.Copies[0].Var != 2 {
			t.Errorf("%s: %q, not %q", c[0], got, c[1])
		}
	}
}

// P8.1: as many links in one chain as an expression may have.
func TestLongChain(t *testing.T) {
	links := strings.Repeat("tail ", api.MaxDepth-1)
	f := flattened(t, program(t, inMain("v: int", "o = "+links+"i; v = f("+links[len("tail "):]+"o);")))
	if many := len(f.Copies[0].From.Links); many != api.MaxDepth-1 {
		t.Errorf("%d links", many)
	}
	if many := len(f.Calls[0].Args[0].Links); many != api.MaxDepth-2 {
		t.Errorf("%d links of an Arg", many)
	}
}

// P8.1: nodes as whole right sides and as parts, twice, and within Args.
func TestNodeCalls(t *testing.T) {
	wantEquations(t, "", "o = f(i);", "", "o = f(i)")
	wantEquations(t, "", "o = tail f(i);", "f.1 int", "f.1 = f(i); o = f.1 tail")
	wantEquations(t, "v: bool", "(o, v) = g(i, j);", "", "o, v = g(i, j)")
	wantEquations(t, "v: bool", "(v, o) = g(tail i, true fby j);", "", "v, o = g(i tail, j fby true)")
	wantEquations(t, "v: bool", "o = f(i); v = h(o, f(i));", "f.3 int", "o = f(i); f.3 = f(i); v = h(o, f.3)")
	wantEquations(t, "v: bool", "v = h(f(i), f(f(o))); o = i;", "f.2 int, f.4 int, f.3 int",
		"f.2 = f(i); f.4 = f(o); f.3 = f(f.4); v = h(f.2, f.3); o = i")
	wantEquations(t, "v: bool", "v = true fby h(i, 1 :: f(i)); o = f(o);", "f.2 int, h.1 bool",
		"f.2 = f(i); h.1 = h(i, f.2 :: 1); o = f(o); v = h.1 fby true")
	wantEquations(t, "f: int; h: bool", "f = f(f(f)); h = h(f, f); o = f;", "f.2 int", "f.2 = f(f); f = f(f.2); h = h(f, f); o = f")
}

// P8.1: flows as whole right sides and as parts, in flows that are called, and in Args.
func TestFlowCalls(t *testing.T) {
	wantEquations(t, "", "o = s(i);", "s.1.a int, s.1.b int", "s.1.a = i; s.1.b = s.1.a fby 0; o = s.1.b")
	wantEquations(t, "", "o = tail s(tail i);", "s.1.a int, s.1.b int", "s.1.a = i tail; s.1.b = s.1.a fby 0; o = s.1.b tail")
	wantEquations(t, "v: bool", "(o, v) = t(i, j);", "t.1.a int, t.1.c bool, t.1.b int, t.1.d bool, t.1.e int",
		"t.1.e = f(t.1.a); t.1.a = i; t.1.c = j; t.1.b = t.1.e tail; t.1.d = t.1.c; o = t.1.b; v = t.1.d")
	wantEquations(t, "v: bool", "(v, o) = t(i, j);", "t.1.a int, t.1.c bool, t.1.b int, t.1.d bool, t.1.e int",
		"t.1.e = f(t.1.a); t.1.a = i; t.1.c = j; t.1.b = t.1.e tail; t.1.d = t.1.c; v = t.1.b; o = t.1.d")
	wantEquations(t, "", "o = u(i);", "u.1.a int, u.1.b int, f.3 int, s.2.a int, s.2.b int",
		"f.3 = f(u.1.a); u.1.a = i; s.2.a = f.3; s.2.b = s.2.a fby 0; u.1.b = s.2.b; o = u.1.b")
	wantEquations(t, "", "o = f(s(i));", "s.2.a int, s.2.b int", "o = f(s.2.b); s.2.a = i; s.2.b = s.2.a fby 0")
	wantEquations(t, "", "o = s(s(i));", "s.2.a int, s.2.b int, s.1.a int, s.1.b int",
		"s.2.a = i; s.2.b = s.2.a fby 0; s.1.a = s.2.b; s.1.b = s.1.a fby 0; o = s.1.b")
	wantEquations(t, "v: bool", "v = h(s(i), s(f(o))); o = i;", "s.2.a int, s.2.b int, f.4 int, s.3.a int, s.3.b int",
		"f.4 = f(o); v = h(s.2.b, s.3.b); s.2.a = i; s.2.b = s.2.a fby 0; s.3.a = f.4; s.3.b = s.3.a fby 0; o = i")
	wantEquations(t, "v: int", "v = s(v); o = f(v);", "s.1.a int, s.1.b int", "o = f(v); s.1.a = v; s.1.b = s.1.a fby 0; v = s.1.b")
}

// P8.1: calls are numbered as they are begun: a call ahead of its Args, a flow's Args ahead of what it calls.
func TestNumbers(t *testing.T) {
	wantEquations(t, "", "o = r(f(i));",
		"f.2 int, r.1.a int, r.1.b int, r.1.e int, s.3.a int, s.3.b int, u.4.a int, u.4.b int, f.6 int, s.5.a int, s.5.b int",
		"f.2 = f(i); f.6 = f(u.4.a); r.1.a = f.2; s.3.a = r.1.a; s.3.b = s.3.a fby 0; r.1.e = s.3.b *^ 2; "+
			"u.4.a = r.1.e; s.5.a = f.6; s.5.b = s.5.a fby 0; u.4.b = s.5.b; r.1.b = u.4.b; o = r.1.b")
	wantEquations(t, "v: int; w: int", "v = u(i); w = f(s(v)); o = tail f(w);",
		"u.1.a int, u.1.b int, f.3 int, s.2.a int, s.2.b int, s.5.a int, s.5.b int, f.6 int",
		"f.3 = f(u.1.a); w = f(s.5.b); f.6 = f(w); u.1.a = i; s.2.a = f.3; s.2.b = s.2.a fby 0; u.1.b = s.2.b; v = u.1.b; "+
			"s.5.a = v; s.5.b = s.5.a fby 0; o = f.6 tail")
}

// P8.1: what nodes call within nodes has no numbers of calls.
func TestNumbersOfNodes(t *testing.T) {
	src := "node g(x: int) returns (y: int) let y = x; tel node f(x: int) returns (y: int) let y = g(x) + g(1); tel " +
		"flow m(i: int rate (6, 0)) returns (o: int) let o = tail f(f(tail f(i))); tel"
	f := flattened(t, program(t, src))
	if got := varsText(f); got != "i int, o int, f.3 int, f.2 int, f.1 int" {
		t.Error(got)
	}
}

// P8.1: one body for each node that a flow calls, as their calls begin; none for others.
func TestBodies(t *testing.T) {
	for _, c := range []struct{ eqs, bodies string }{
		{"o = i;", ""},
		{"o = f(i);", "f"},
		{"o = f(f(f(i)));", "f"},
		{"o = s(s(i));", ""},
		{"v = h(f(i), f(i)); o = f(o);", "h f"},
		{"o = f(i); v = h(f(i), f(i));", "f h"},
		{"(o, v) = g(f(i), h(i, i));", "g f h"},
		{"o = u(i); v = h(i, i);", "f h"},
		{"v = h(i, u(i)); o = f(i);", "h f"},
		{"(o, v) = t(f(i), h(i, i));", "f h"},
		{"(o, v) = t(i, h(i, i));", "h f"},
	} {
		vars := "v: bool"
		if !strings.Contains(c.eqs, "v") {
			vars = ""
		}
		f := flattened(t, program(t, inMain(vars, c.eqs)))
		var names []string
		for _, b := range f.Bodies {
			names = append(names, b.Name)
		}
		if got := strings.Join(names, " "); got != c.bodies {
			t.Errorf("%s: bodies %q, not %q", c.eqs, got, c.bodies)
		}
	}
}

// P8.1: main's inputs and outputs, with their rates and deadlines; its variables of every kind stand ahead.
func TestMain(t *testing.T) {
	src := callable + `flow m(i: int rate (6, 0); j: bool rate (1, 9223372036854775807); k: int rate (9223372036854775807, 3))
returns (o: int; p: bool due 4; q: int due 9223372036854775807) var v: bool; w: int; let o = r(k); v = h(o, u(i)); w = f(f(w)); (p, q) = g(i, j); tel`
	p := program(t, src)
	f := flattened(t, p)
	if got := varsText(f); !strings.HasPrefix(got, "i int, j bool, k int, o int, p bool, q int, v bool, w int, r.1.a int") {
		t.Error(got)
	}
	if want := []api.FlatIn{{Var: 0, Period: 6}, {Var: 1, Period: 1, Start: 1<<63 - 1}, {Var: 2, Period: 1<<63 - 1, Start: 3}}; !reflect.DeepEqual(f.Ins, want) {
		t.Errorf("inputs %v", f.Ins)
	}
	for i, want := range []api.FlatOut{{Name: "o", Type: api.TInt}, {Name: "p", Type: api.TBool, Due: 4}, {Name: "q", Type: api.TInt, Due: 1<<63 - 1}} {
		want.From.Var = 3 + i
		want.At, want.From.At, want.From.Links = f.Outs[i].At, f.Outs[i].From.At, f.Outs[i].From.Links
		if len(want.From.Links) > 0 || !reflect.DeepEqual(f.Outs[i], want) {
			t.Errorf("output %v, not %v", f.Outs[i], want)
		}
	}
}

// P8.1: the flow of the name that is handed in, whatever else there is; what it does not call is not looked at.
func TestWhichMain(t *testing.T) {
	src := callable + `flow m(i: int rate (6, 0)) returns (o: int) let o = i; tel node bad(x: int) returns (y: int) let y = y; tel
flow other(a: int) returns (b: int) let b = bad(a); tel`
	f := flattened(t, program(t, src))
	if got := varsText(f) + ": " + equationsText(f); got != "i int, o int: o = i" || len(f.Bodies) > 0 {
		t.Error(got)
	}
	again := strings.NewReplacer("m(i", "first(i").Replace(src)
	if _, err := Flatten(program(t, again), "first"); err != nil {
		t.Error(err)
	}
	wantFault(t, "no main", program(t, again), api.Fault{At: 0, Err: api.ErrMain})
}

// P8.1: each of bind.Check's errors is told as that tells it, ahead of all that flattening finds.
func TestNames(t *testing.T) {
	ring := "node bad(x: int) returns (y: int) let y = y; tel "
	seen := make(map[api.Errno]bool)
	for _, c := range []struct {
		src  string
		want api.Errno
	}{
		{"node f(x: int) returns (y: int) let y = x; tel node f(x: int) returns (y: int) let y = x; tel", api.ErrTwice},
		{"node m(x: int) returns (y: int) let y = x; tel", api.ErrMain},
		{"flow m(i: int rate (5, 0); i: int rate (5, 0)) returns (o: int) let o = bad(i); tel", api.ErrTwice},
		{"flow m() returns (o: int) let o = bad(o); tel", api.ErrArity},
		{"flow m(i: int) returns (o: int) let o = bad(i); tel", api.ErrRate},
		{"flow m(i: int rate (5, 0)) returns (o: int) let o = bad(z); tel", api.ErrUnknown},
		{"flow m(i: int rate (5, 0)) returns (o: int) let o = bad(i); i = o; tel", api.ErrInput},
		{"flow m(i: int rate (5, 0)) returns (o: int; p: int) let o = bad(i); tel", api.ErrUntold},
		{"flow m(i: int rate (5, 0)) returns (o: int) let o = bad(i, i); tel", api.ErrArity},
		{"flow m(i: int rate (5, 0)) returns (o: int) let o = bad(i + 1); tel", api.ErrPlace},
		{"flow m(i: int rate (5, 0)) returns (o: int) let o = bad(i); tel node z(x: int) returns (y: int) let y = z(x); tel", api.ErrCycle},
	} {
		p := program(t, ring+c.src)
		var want api.Fault
		if !errors.As(bind.Check(p, "m"), &want) || want.Err != c.want {
			t.Fatalf("%s: %v", c.src, want)
		}
		wantFault(t, c.src, p, want)
		seen[want.Err] = true
	}
	for n := api.ErrTwice; n <= api.ErrMain; n++ {
		if !seen[n] {
			t.Errorf("no program has error %d", n)
		}
	}
	wantFault(t, "no program", api.Program{}, api.Fault{At: 0, Err: api.ErrMain})
	p := program(t, ring+"flow m(i: int rate (5, 0)) returns (o: int) let o = bad(i); tel")
	p.Nodes[1].Eqs[0].At = -5
	p.Nodes[0].Eqs[0].At = -7
	wantFault(t, "places that are none", p, api.Fault{At: -7, Err: api.ErrLoop})
	p.Nodes[0].Eqs[0].E.Kind = 0
	wantFault(t, "what may not be", p, api.Fault{At: 0, Err: api.ErrShape})
	p.Nodes[0].Eqs = make([]api.Eq, api.MaxEqs+1)
	wantFault(t, "what is too great", p, api.Fault{At: 0, Err: api.ErrBig})
}
