package bind

import (
	"errors"
	"strconv"
	"strings"
	"testing"

	"carillon/api"
	"carillon/parse"
)

// behind is a flow that is right whatever stands ahead.
const behind = " flow m(i: int rate (5, 0)) returns (o: int) let o = i; tel"

// unmarked is src without its mark, an @, and the place where that stood (0, if there is none).
func unmarked(src string) (string, int) {
	ahead, rest, is := strings.Cut(src, "@")
	if !is {
		return src, 0
	}
	return ahead + rest, len(ahead)
}

func program(t *testing.T, src string) api.Program {
	t.Helper()
	p, err := parse.Program(src)
	if err != nil {
		t.Fatalf("%q: %v", src, err)
	}
	return p
}

// wantFault asks of an error what R7 says; of OK that there is none.
func wantFault(t *testing.T, what string, err error, want api.Fault) {
	t.Helper()
	if want.Err == api.OK {
		if err != nil {
			t.Errorf("%s: %v, not right", what, err)
		}
		return
	}
	var f api.Fault
	if !errors.As(err, &f) || f != want {
		t.Errorf("%s: %v, not %v", what, err, want)
		return
	}
	if _, is := err.(api.Fault); is {
		t.Errorf("%s: a fault that nothing wraps", what)
	}
	for _, n := range []api.Errno{api.ErrShape, api.ErrDeep, api.ErrBig, api.ErrTwice, api.ErrUnknown, api.ErrInput, api.ErrUntold, api.ErrArity, api.ErrPlace, api.ErrCycle, api.ErrRate, api.ErrMain} {
		if errors.Is(err, n) != (n == want.Err) {
			t.Errorf("%s: errors.Is(%v, %d) is %v", what, err, n, n != want.Err)
		}
	}
	if err.Error() == "" {
		t.Errorf("%s: an error without a text", what)
	}
}

// wantCheck asks Check of src, and of its flow main, to tell want at the mark.
func wantCheck(t *testing.T, src, main string, want api.Errno) {
	t.Helper()
	src, at := unmarked(src)
	wantFault(t, src+" main "+strconv.Quote(main), Check(program(t, src), main), api.Fault{At: at, Err: want})
}

// wantNodes asks the same, with a main behind src that is right.
func wantNodes(t *testing.T, src string, want api.Errno) {
	t.Helper()
	wantCheck(t, src+behind, "m", want)
}

// wantEqs asks the same of a node that has an input x, outputs y and z, a variable v, with these equations.
func wantEqs(t *testing.T, eqs string, want api.Errno) {
	t.Helper()
	wantNodes(t, "node n(x: int) returns (y: int; z: int) var v: int; let "+eqs+" tel", want)
}

// wantFlowEqs asks the same of a flow main that has an input x, outputs y and z, a variable v. Ahead stand nodes and flows that can be called: n11 has one input and one output, and so on.
func wantFlowEqs(t *testing.T, eqs string, want api.Errno) {
	t.Helper()
	wantCheck(t, callable+"flow m(x: int rate (5, 0)) returns (y: int; z: int) var v: int; let "+eqs+" tel", "m", want)
}

// wantNodeCalls asks the same of a node, ahead of which the same stands.
func wantNodeCalls(t *testing.T, eqs string, want api.Errno) {
	t.Helper()
	wantNodes(t, callable+"node n(x: int) returns (y: int; z: int) var v: int; let "+eqs+" tel", want)
}

const callable = "node n11(a: int) returns (b: int) let b = a; tel " +
	"node n12(a: int) returns (b: int; c: int) let b = a; c = a; tel " +
	"node n21(a: int; d: int) returns (b: int) let b = a; tel " +
	"node n13(a: int) returns (b: int; c: int; e: bool) let b = a; c = a; e = true; tel " +
	"flow f11(a: int) returns (b: int) let b = a; tel " +
	"flow f12(a: int) returns (b: int; c: int) let b = a; c = a; tel " +
	"flow f21(a: int; d: int) returns (b: int) let b = a; tel " +
	"flow f13(a: int) returns (b: int; c: int; e: bool) let b = a; c = a; e = false :: a; tel "

// P7.1: the chapter's examples.
func TestExamples(t *testing.T) {
	const flow = " flow m(i: int rate (5, 0)) returns (o: int) let o = f(i); tel"
	wantCheck(t, "node f(x: int) returns (y: int) let y = @z; tel"+flow, "m", api.ErrUnknown)
	wantCheck(t, "node f(x: int) returns (y: int) let y = x; tel"+flow, "f", api.ErrMain)
	wantCheck(t, "node f(x: int) returns (y: int) let y = x; tel"+flow, "m", api.OK)
	wantNodes(t, "@node a(x: int) returns (y: int) let y = b(x); tel node b(x: int) returns (y: int) let y = a(x); tel", api.ErrCycle)
}

// P7.1: programs that are right.
func TestRight(t *testing.T) {
	wantNodes(t, "", api.OK)
	wantNodes(t, callable, api.OK)
	wantCheck(t, behind+" "+callable, "m", api.OK)
	wantCheck(t, "flow m(i: int rate (5, 0); j: bool rate (10, 3)) returns (o: int due 4; p: bool) var v: int; let v = 0 fby (v *^ 2 /^ 2); (o, p) = f(i, v); tel node f(x: int; y: int) returns (z: int; more: bool) let z = g(x) + g(y); more = x < y; tel node g(x: int) returns (x1: int) let x1 = -x; tel", "m", api.OK)
	wantEqs(t, "z = y; y = v; v = x;", api.OK)
	wantEqs(t, "y = y; z = z; v = v;", api.OK)
	wantFlowEqs(t, "z = y; y = v; v = x;", api.OK)
	// Types, clocks and circles of equations are no matter of names.
	wantEqs(t, "y = x and true; z = if 1 then y else z; v = not 7;", api.OK)
	wantFlowEqs(t, "y = true :: y; z = x *^ 2; v = n21(x, x *^ 2);", api.OK)
}

// P7.1 (2): a name that nodes bear.
func TestNodesTwice(t *testing.T) {
	const n, f = "node n(x: int) returns (y: int) let y = x; tel ", "flow n(x: int) returns (y: int) let y = x; tel "
	for _, first := range []string{n, f} {
		for _, second := range []string{n, f} {
			wantNodes(t, first+"@"+second, api.ErrTwice)
			wantNodes(t, first+callable+"@"+second, api.ErrTwice)
			wantNodes(t, first+"@"+second+first, api.ErrTwice)
			wantNodes(t, first+"@"+second+strings.Replace(n, "n(", "n11(", 1)+callable, api.ErrTwice)
		}
	}
	wantNodes(t, "node n(x: int) returns (y: int) let y = x; tel node N(x: int) returns (y: int) let y = x; tel", api.OK)
	wantNodes(t, "node n(n: int) returns (m: int) let m = n; tel", api.OK)
	// Which of two is second, not whose place comes behind.
	p := program(t, n+behind+" "+n)
	p.Nodes[0].At, p.Nodes[2].At = 70, 30
	wantFault(t, "places that go back", Check(p, "m"), api.Fault{At: 30, Err: api.ErrTwice})
}

// P7.1 (3): the flow that is compiled.
func TestMain(t *testing.T) {
	for _, main := range []string{"", "mm", "M", "m ", " m", "n11", "n21", "x", "i", "o", "flow", "m\x00", "\xff", strings.Repeat("m", 1<<16)} {
		wantCheck(t, callable+behind, main, api.ErrMain)
	}
	for _, src := range []string{"", "node m(x: int) returns (y: int) let y = x; tel"} {
		wantCheck(t, src, "m", api.ErrMain)
		wantCheck(t, src, "", api.ErrMain)
	}
	wantCheck(t, callable+behind, "m", api.OK)
	// Another flow is main: the rates are those of that one.
	wantCheck(t, "flow f(@x: int) returns (y: int) let y = x; tel"+behind, "f", api.ErrRate)
	wantCheck(t, "flow f(x: int rate (1, 0)) returns (y: int) let y = x; tel"+strings.Replace(behind, "i:", "@i:", 1), "f", api.ErrRate)
	// The node of a name is the first one; a name that two bear is wrong in itself.
	node := "node m(x: int) returns (y: int) let y = x; tel"
	wantCheck(t, node+strings.Replace(behind, "flow", "@flow", 1), "m", api.ErrTwice)
	wantCheck(t, behind+" @"+node, "m", api.ErrTwice)
	wantCheck(t, node+" @"+node+behind, "none", api.ErrTwice)
}

// P7.1 (4): a name that a node has twice.
func TestHasTwice(t *testing.T) {
	for _, params := range []string{
		"(x: int; @x: int) returns (y: int) let",
		"(x: int; @x: bool) returns (y: int) let",
		"(x: int; w: int; @x: int; @w: int) returns (y: int) let",
		"(x: int; w: int; @w: int; @x: int) returns (y: int) let",
		"(x: int; @x: int; @x: int) returns (@x: int) var @x: int; let",
		"(x: int) returns (y: int; @y: int) let",
		"(x: int) returns (y: int; z: int; @y: bool; @z: int) let",
		"(x: int) returns (y: int) var v: int; @v: int; let",
		"(x: int) returns (y: int) var v: int; w: int; u: int; @u: bool; @w: int; let",
		"(x: int) returns (@x: int) let",
		"(x: int) returns (y: int; @x: int) let",
		"(x: int) returns (y: int) var @x: int; let",
		"(x: int) returns (y: int) var v: int; @x: int; @v: int; let",
		"(x: int) returns (y: int) var @y: int; let",
		"(x: int) returns (y: int; z: int) var @z: int; @y: int; let",
		"(x: int) returns (@x: int) var @x: int; let",
		"() returns (y: int; @y: int) let",
		"() returns (y: int) var @y: int; let",
		"() returns () var v: int; @v: int; let",
		"(x: int; @x: int) returns () let",
	} {
		first := strings.Index(params, "@") + 1
		params = params[:first] + strings.ReplaceAll(params[first:], "@", "")
		wantNodes(t, "node n"+params+" tel", api.ErrTwice)
		wantNodes(t, "flow n"+params+" tel", api.ErrTwice)
		wantCheck(t, "flow m"+params+" tel", "m", api.ErrTwice)
	}
	wantNodes(t, "node n(x: int; X: int; x1: int; _x: int) returns (y: int; n: int; m: int) var n11: int; let y = x; n = y; m = n; n11 = m; tel", api.OK)
}

// P7.1 (4): no inputs, no outputs.
func TestNoParams(t *testing.T) {
	for _, rest := range []string{
		"() returns (y: int) let y = 1; tel",
		"() returns (y: int) let y = nothing; tel",
		"() returns () let tel",
		"() returns () var v: int; let v = 1; tel",
		"(x: int) returns () let tel",
		"(x: int) returns () var v: int; let v = x; tel",
	} {
		wantNodes(t, "@node n"+rest, api.ErrArity)
		wantNodes(t, "@flow n"+rest, api.ErrArity)
		wantCheck(t, "@flow m"+rest, "m", api.ErrArity)
		wantCheck(t, callable+"@flow m"+rest, "m", api.ErrArity)
	}
	wantCheck(t, "@flow m() returns (y: int due 5) let y = 1 fby y; tel", "m", api.ErrArity)
	wantCheck(t, "@flow m(x: int rate (1, 0)) returns () let tel", "m", api.ErrArity)
	wantNodes(t, "@flow f(x: int rate (1, 0)) returns () let tel", api.ErrArity)
}

// P7.1 (4): rates and deadlines, in main and elsewhere.
func TestRates(t *testing.T) {
	const eqs = " let o = i; p = o; tel"
	wantCheck(t, "flow m(@i: int) returns (o: int; p: int)"+eqs, "m", api.ErrRate)
	wantCheck(t, "flow m(i: int rate (1, 0); @j: int) returns (o: int; p: int)"+eqs, "m", api.ErrRate)
	wantCheck(t, "flow m(@j: int; k: int; i: int rate (1, 0)) returns (o: int; p: int)"+eqs, "m", api.ErrRate)
	wantCheck(t, "flow m(@i: int) returns (o: int due 1; p: int)"+eqs, "m", api.ErrRate)
	wantCheck(t, "flow m(i: int rate (1, 0)) returns (o: int; p: int)"+eqs, "m", api.OK)
	wantCheck(t, "flow m(i: int rate (1, 0)) returns (o: int due 1; p: int)"+eqs, "m", api.OK)
	wantCheck(t, "flow m(i: int rate (1, 0)) returns (o: int; p: int due 9)"+eqs, "m", api.OK)
	wantCheck(t, "flow m(i: int rate (1, 0); j: bool rate (7, 7)) returns (o: int due 1; p: int due 2)"+eqs, "m", api.OK)
	wantNodes(t, "flow f(i: int) returns (o: int; p: int)"+eqs, api.OK)
	wantNodes(t, "flow f(@i: int rate (1, 0)) returns (o: int; p: int)"+eqs, api.ErrRate)
	wantNodes(t, "flow f(i: int; @j: int rate (1, 0); k: int rate (1, 0)) returns (o: int; p: int)"+eqs, api.ErrRate)
	wantNodes(t, "flow f(i: int) returns (@o: int due 1; p: int)"+eqs, api.ErrRate)
	wantNodes(t, "flow f(i: int) returns (o: int; @p: int due 1)"+eqs, api.ErrRate)
	wantNodes(t, "flow f(i: int) returns (@o: int due 1; p: int due 2)"+eqs, api.ErrRate)
	wantNodes(t, "flow f(i: int; @j: int rate (1, 0)) returns (o: int due 1; p: int)"+eqs, api.ErrRate)
	wantCheck(t, "flow m(i: int rate (5, 0)) returns (o: int) let o = i; tel flow f(@i: int rate (1, 0)) returns (o: int; p: int)"+eqs, "m", api.ErrRate)
	// What is called is main all the same, or is not.
	wantCheck(t, behind+" flow f(i: int) returns (o: int) let o = m(i); tel", "m", api.OK)
	wantCheck(t, strings.Replace(behind, "o = i", "o = f(i)", 1)+" flow f(@i: int rate (5, 0)) returns (o: int) let o = i; tel", "m", api.ErrRate)
}

// P7.1 (4): which names an equation may tell.
func TestEqNames(t *testing.T) {
	wantEqs(t, "y = x; z = x; v = x;", api.OK)
	wantEqs(t, "y = x; z = x; v = x; @w = x;", api.ErrUnknown)
	wantEqs(t, "@w = x; y = x; z = x; v = x;", api.ErrUnknown)
	wantEqs(t, "@n = x; y = x; z = x; v = x;", api.ErrUnknown)
	wantEqs(t, "y = x; @m = x; z = x; v = x;", api.ErrUnknown)
	wantEqs(t, "y = x; z = x; v = x; @x = y;", api.ErrInput)
	wantEqs(t, "@x = x; y = x; z = x; v = x;", api.ErrInput)
	wantEqs(t, "@x = x; x = x; y = x; z = x; v = x;", api.ErrInput)
	wantEqs(t, "y = x; z = x; v = x; @y = x;", api.ErrTwice)
	wantEqs(t, "y = x; @y = x; z = x; v = x;", api.ErrTwice)
	wantEqs(t, "v = x; y = x; z = x; @v = x; y = x; z = x;", api.ErrTwice)
	for _, want := range []func(*testing.T, string, api.Errno){wantFlowEqs, wantNodeCalls} {
		want(t, "(y, z) = n12(x); v = x;", api.OK)
		want(t, "(z, y, v) = n13(x);", api.OK)
		want(t, "(v) = x; (y) = n11(x); z = x;", api.OK)
		want(t, "@(y, y) = n12(x); z = x; v = x;", api.ErrTwice)
		want(t, "@(y, z, y) = n13(x); v = x;", api.ErrTwice)
		want(t, "(y, z) = n12(x); @(v, z) = n12(x);", api.ErrTwice)
		want(t, "(y, z) = n12(x); @(z, v) = n12(x);", api.ErrTwice)
		want(t, "(y, z) = n12(x); v = x; @z = x;", api.ErrTwice)
		want(t, "@(y, w) = n12(x); z = x; v = x;", api.ErrUnknown)
		want(t, "@(w, y) = n12(x); z = x; v = x;", api.ErrUnknown)
		want(t, "@(y, x) = n12(x); z = x; v = x;", api.ErrInput)
		want(t, "@(x, y) = n12(x); z = x; v = x;", api.ErrInput)
		// Name by name, the first that is wrong.
		want(t, "@(w, x, y) = n13(x); z = x; v = x;", api.ErrUnknown)
		want(t, "@(x, w, y) = n13(x); z = x; v = x;", api.ErrInput)
		want(t, "@(y, y, x) = n13(x); z = x; v = x;", api.ErrTwice)
		want(t, "@(y, y, w) = n13(x); z = x; v = x;", api.ErrTwice)
		want(t, "@(y, x, y) = n13(x); z = x; v = x;", api.ErrInput)
		want(t, "@(w, w, y) = n13(x); z = x; v = x;", api.ErrUnknown)
		want(t, "@(x, x, y) = n13(x); z = x; v = x;", api.ErrInput)
	}
}

// P7.1 (4): what no equation tells.
func TestUntold(t *testing.T) {
	untold := func(params, eqs string) {
		t.Helper()
		wantNodes(t, "node n(x: int) returns ("+params+" let "+eqs+" tel", api.ErrUntold)
		wantNodes(t, "flow n(x: int) returns ("+params+" let "+eqs+" tel", api.ErrUntold)
		wantCheck(t, "flow m(x: int rate (1, 0)) returns ("+params+" let "+eqs+" tel", "m", api.ErrUntold)
	}
	untold("@y: int)", "")
	untold("@y: int; z: int) var v: int;", "")
	untold("@y: int; z: int) var v: int;", "z = x; v = x;")
	untold("@y: int; z: int) var v: int;", "v = x;")
	untold("y: int; @z: int) var v: int;", "y = x;")
	untold("y: int; @z: int) var v: int;", "v = y; y = x;")
	untold("y: int; z: int) var @v: int;", "z = x; y = x;")
	untold("y: int; z: int) var @v: int;", "z = v; y = v;")
	untold("y: int) var v: int; @w: int;", "v = x; y = x;")
	untold("y: int) var @v: int; w: int;", "w = x; y = x;")
	untold("y: int) var @v: int; w: int;", "y = x;")
	wantEqs(t, "y = @k; z = x;", api.ErrUnknown)
}
