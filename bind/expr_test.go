package bind

import (
	"strings"
	"testing"

	"carillon/api"
)

// inNode asks want of an expression of a node that has x, u and y: as the whole right side, and as each kind of part.
func inNode(t *testing.T, e string, want api.Errno) {
	t.Helper()
	for _, around := range []string{"#", "(#)", "-(#)", "not (#)", "(#) + x", "x + (#)", "(#) = x", "x and (#)", "if # then x else x", "if x then # else x", "if x then x else (#)", "n11(#)", "n21(#, x)", "n21(x, #)", "-n11(1 + (if x then -(#) else x))"} {
		wantNodes(t, callable+"node n(x: int) returns (y: int) var u: int; let u = x; y = "+put(around, e)+"; tel", want)
	}
}

// inFlow asks the same of one of a flow, main and another one.
func inFlow(t *testing.T, e string, want api.Errno) {
	t.Helper()
	for _, around := range []string{"#", "(#)", "0 fby (#)", "-7 :: (#)", "true fby (#)", "tail (#)", "(#) *^ 2", "(#) /^ 3", "(#) ~> 1 / 2", "n11(#)", "n21(#, x)", "n21(x, #)", "f11(#)", "f21(#, x)", "f21(x, #)", "tail f11(0 fby ((#) *^ 2))"} {
		rest := " returns (y: int) var u: int; let u = x; y = " + put(around, e) + "; tel"
		wantNodes(t, callable+"flow n(x: int)"+rest, want)
		wantCheck(t, callable+"flow m(x: int rate (1, 0))"+rest, "m", want)
	}
}

// put is around with e in the place of its #. A mark ahead of parentheses goes into them: they are no part of what it marks.
func put(around, e string) string {
	for strings.Contains(e, "@(") {
		e = strings.Replace(e, "@(", "(@", 1)
	}
	return strings.Replace(around, "#", e, 1)
}

// P7.1 (4): names of variables.
func TestVariables(t *testing.T) {
	for _, in := range []func(*testing.T, string, api.Errno){inNode, inFlow} {
		in(t, "x", api.OK)
		in(t, "y", api.OK)
		in(t, "u", api.OK)
		for _, name := range []string{"z", "X", "xx", "u1", "n", "m", "n11", "f11", "a", "b", "i", "o", "_"} {
			in(t, "@"+name, api.ErrUnknown)
		}
		in(t, "n21(@w, z)", api.ErrUnknown)
		in(t, "n21(x, @z)", api.ErrUnknown)
	}
}

// P7.1 (4): a whole right side that is no call, with one name and with more.
func TestWholeRightSides(t *testing.T) {
	for _, e := range []string{"x", "5", "true", "-x", "not x", "x + y", "x - y", "x * y", "x / y", "x % y", "x = y", "x <> y", "x < y", "x <= y", "x > y", "x >= y", "x and y", "x or y", "if x then y else z", "n11(x) + 1"} {
		wantNodeCalls(t, "y = "+e+"; z = x; v = x;", api.OK)
		wantNodeCalls(t, "(y) = "+e+"; z = x; v = x;", api.OK)
		wantNodeCalls(t, "(y, z) = @"+e+"; v = x;", api.ErrArity)
		wantNodeCalls(t, "(y, z, v) = @"+e+";", api.ErrArity)
	}
	for _, e := range []string{"x", "0 fby x", "-1 :: x", "tail x", "x *^ 2", "x /^ 2", "x ~> 1", "tail n12(x)"} {
		if e != "tail n12(x)" {
			wantFlowEqs(t, "y = "+e+"; z = x; v = x;", api.OK)
		}
		wantFlowEqs(t, "(y, z) = @"+e+"; v = x;", api.ErrArity)
		wantFlowEqs(t, "(y, z, v) = @"+e+";", api.ErrArity)
	}
	// Ahead of all else that is wrong with it.
	for _, e := range []string{"w", "w + w", "tail w", "x fby w", "if g(w) then 1 else 2", "-n12(x)"} {
		wantNodeCalls(t, "(y, z) = @"+e+"; v = x;", api.ErrArity)
		wantFlowEqs(t, "(y, z) = @"+e+"; v = x;", api.ErrArity)
	}
	// What an equation may not tell is ahead of that.
	wantEqs(t, "@(y, x) = x; z = x; v = x;", api.ErrInput)
}

// P7.1 (4): calls of whom there is not, and of flows.
func TestCallees(t *testing.T) {
	for _, name := range []string{"g", "N11", "n1", "n111", "x", "y", "u", "f"} {
		inNode(t, "@"+name+"(x)", api.ErrUnknown)
		inFlow(t, "@"+name+"(x)", api.ErrUnknown)
	}
	inNode(t, "n11(x)", api.OK)
	inNode(t, "n21(x, y)", api.OK)
	inNode(t, "@f11(x)", api.ErrPlace)
	inNode(t, "@f21(x, y)", api.ErrPlace)
	inNode(t, "n11(@f11(x))", api.ErrPlace)
	inFlow(t, "n11(x)", api.OK)
	inFlow(t, "f11(x)", api.OK)
	inFlow(t, "f21(n11(x), f21(x, y))", api.OK)
	wantNodes(t, "node n(x: int) returns (y: int) let y = @m(x); tel", api.ErrPlace)
	wantNodes(t, "flow n(x: int) returns (y: int) let y = m(x); tel", api.OK)
	// A flow may not be called there, with however many Args and names.
	inNode(t, "@f11(x, x)", api.ErrPlace)
	inNode(t, "@f12(x)", api.ErrPlace)
	wantNodeCalls(t, "(y, z) = @f12(x); v = x;", api.ErrPlace)
	wantNodeCalls(t, "(y, z) = @f11(x); v = x;", api.ErrPlace)
	// Nobody of that name is ahead of all else, and that ahead of its Args.
	inNode(t, "@g(z, w)", api.ErrUnknown)
	inNode(t, "@f11(z)", api.ErrPlace)
	inNode(t, "@n11(z, z)", api.ErrArity)
	inFlow(t, "@g(z, w)", api.ErrUnknown)
	inFlow(t, "@f11(z, z)", api.ErrArity)
	inFlow(t, "@n11(1 + x, 5)", api.ErrArity)
}

// P7.1 (4): how many Args a call has.
func TestCallArgs(t *testing.T) {
	counts := func(in func(*testing.T, string, api.Errno), name string) {
		t.Helper()
		in(t, name+"11(x)", api.OK)
		in(t, "@"+name+"11(x, x)", api.ErrArity)
		in(t, "@"+name+"21(x)", api.ErrArity)
		in(t, name+"21(x, x)", api.OK)
		in(t, "@"+name+"21(x, x, x)", api.ErrArity)
		in(t, name+"21("+name+"11(x), x)", api.OK)
		in(t, name+"21(x, @"+name+"11(x, x))", api.ErrArity)
		in(t, name+"21(@"+name+"21(x), "+name+"11(x, x))", api.ErrArity)
		in(t, "@"+name+"11("+name+"21(x), "+name+"11(x, x))", api.ErrArity)
	}
	counts(inNode, "n")
	counts(inFlow, "n")
	counts(inFlow, "f")
}

// P7.1 (4): how many outputs whom is called has.
func TestCallNames(t *testing.T) {
	counts := func(want, in func(*testing.T, string, api.Errno), name string) {
		t.Helper()
		want(t, "y = "+name+"11(x); z = x; v = x;", api.OK)
		want(t, "(y, z) = @"+name+"11(x); v = x;", api.ErrArity)
		want(t, "(y, z, v) = @"+name+"11(x);", api.ErrArity)
		want(t, "y = @"+name+"12(x); z = x; v = x;", api.ErrArity)
		want(t, "(y, z) = "+name+"12(x); v = x;", api.OK)
		want(t, "(y, z, v) = @"+name+"12(x);", api.ErrArity)
		want(t, "y = @"+name+"13(x); z = x; v = x;", api.ErrArity)
		want(t, "(y, z) = @"+name+"13(x); v = x;", api.ErrArity)
		want(t, "(y, z, v) = "+name+"13(x);", api.OK)
		want(t, "(y, z) = @"+name+"12(x, x); v = x;", api.ErrArity)
		want(t, "(y, z) = @"+name+"13(w); v = x;", api.ErrArity)
		want(t, "(y, z) = "+name+"12(@w); v = x;", api.ErrUnknown)
		// A part is one value, however many names the equation has.
		want(t, "(y, z) = "+name+"12("+name+"11(x)); v = x;", api.OK)
		want(t, "(y, z) = "+name+"12(@"+name+"12(x)); v = x;", api.ErrArity)
		in(t, "@"+name+"12(x)", api.ErrArity)
		in(t, "@"+name+"13(x)", api.ErrArity)
		in(t, name+"11(@"+name+"12(x))", api.ErrArity)
	}
	counts(wantNodeCalls, inNode, "n")
	counts(wantFlowEqs, inFlow, "n")
	counts(wantFlowEqs, inFlow, "f")
}

// P7.1 (4): a program whose only call is one of a node without inputs, or without outputs: that node is wrong, unless the call comes first.
func TestCallsOfNothing(t *testing.T) {
	const caller = "node n(x: int) returns (y: int) let y = #c(x); tel "
	const noIns, noOuts = "#node c() returns (y: int) let y = 1; tel", "#node c(x: int) returns () let tel"
	for _, callee := range []string{noIns, noOuts} {
		first, other := put(callee, "@"), put(callee, "")
		wantNodes(t, first+" "+put(caller, ""), api.ErrArity)
		wantNodes(t, put(caller, "@")+other, api.ErrArity)
	}
}

// kinds are one expression of each kind: what may stand in nodes alone, in flows alone, in both.
var kinds = []struct {
	e            string
	inNode, inFl bool
}{
	{"x", true, true}, {"n11(x)", true, true},
	{"5", true, false}, {"true", true, false}, {"false", true, false}, {"-x", true, false}, {"-5", true, false}, {"not x", true, false},
	{"x + x", true, false}, {"x - x", true, false}, {"x * x", true, false}, {"x / x", true, false}, {"x % x", true, false},
	{"x = x", true, false}, {"x <> x", true, false}, {"x < x", true, false}, {"x <= x", true, false}, {"x > x", true, false}, {"x >= x", true, false},
	{"x and x", true, false}, {"x or x", true, false}, {"if x then x else x", true, false},
	{"1 fby x", false, true}, {"1 :: x", false, true}, {"tail x", false, true}, {"x *^ 1", false, true}, {"x /^ 1", false, true}, {"x ~> 0", false, true},
}

// P7.1 (4): each kind, in a node and in a flow, whole and as a part.
func TestKinds(t *testing.T) {
	seen := make(map[uint8]int)
	for _, k := range kinds {
		seen[program(t, "node n() returns () let y = "+k.e+"; tel").Nodes[0].Eqs[0].E.Kind]++
		if k.inNode {
			inNode(t, k.e, api.OK)
		} else {
			inNode(t, "@("+k.e+")", api.ErrPlace)
		}
		if k.inFl {
			inFlow(t, k.e, api.OK)
		} else {
			inFlow(t, "@("+k.e+")", api.ErrPlace)
		}
	}
	for kind := api.ExVar; kind <= api.ExLate; kind++ {
		if seen[kind] == 0 {
			t.Errorf("no expression of kind %d", kind)
		}
	}
	// It is told ahead of what is wrong with its Args.
	for _, e := range []string{"w fby w", "w :: w", "tail w", "w *^ 2", "w /^ 2", "w ~> 1 / 2", "1 fby w", "tail n12(w)"} {
		inNode(t, "@("+e+")", api.ErrPlace)
	}
	for _, e := range []string{"-w", "not w", "w + w", "n12(w) and w", "if w then w else w"} {
		inFlow(t, "@("+e+")", api.ErrPlace)
	}
}

// P7.1 (4): which first Args fby and :: may have, and which second ones.
func TestFirstArgs(t *testing.T) {
	for _, s := range []string{" fby ", " :: "} {
		for _, first := range []string{"0", "7", "9223372036854775807", "true", "false", "-0", "-7", "-9223372036854775807", "(5)", "(-5)", "-(5)", "(true)"} {
			inFlow(t, first+s+"x", api.OK)
			inNode(t, "@("+first+s+"x)", api.ErrPlace)
		}
		for _, first := range []string{"x", "w", "-x", "-w", "-true", "- -5", "-(-5)", "not true", "1 + 1", "2 * 3", "(if true then 1 else 2)", "n11(x)", "g(x)", "n12(x)", "f11(1)", "tail x", "(1 fby x)", "(1 :: 2)", "x *^ 2", "(1 = 1)"} {
			inFlow(t, "@("+first+")"+s+"x", api.ErrPlace)
			inFlow(t, "@("+first+")"+s+"w", api.ErrPlace)
			inNode(t, "@(("+first+")"+s+"x)", api.ErrPlace)
		}
		inFlow(t, "0"+s+"@w", api.ErrUnknown)
		inFlow(t, "0"+s+"@5", api.ErrPlace)
		inFlow(t, "0"+s+"@(-5)", api.ErrPlace)
		inFlow(t, "0"+s+"@true", api.ErrPlace)
		inFlow(t, "0"+s+"@(x + 1)", api.ErrPlace)
		inFlow(t, "0"+s+"@g(x)", api.ErrUnknown)
		inFlow(t, "0"+s+"@n12(x)", api.ErrArity)
		inFlow(t, "0"+s+"n11(@w)", api.ErrUnknown)
		inFlow(t, "0"+s+"(1"+s+"x)", api.OK)
		inFlow(t, "0"+s+"(@x"+s+"x)", api.ErrPlace)
		inFlow(t, "0"+s+"(1"+s+"@w)", api.ErrUnknown)
	}
}

// P7.1 (4): an expression ahead of its Args, these in order, and all of one ahead of the next.
func TestExprOrder(t *testing.T) {
	inNode(t, "@w + g(x)", api.ErrUnknown)
	inNode(t, "x + (n21(@w, w) + n12(x))", api.ErrUnknown)
	inNode(t, "-(-(@w)) + n11(x, x)", api.ErrUnknown)
	inNode(t, "@n11(w, w) + w", api.ErrArity)
	inNode(t, "n11(-(@tail w)) + w", api.ErrPlace)
	inNode(t, "n21(@g(w), tail x)", api.ErrUnknown)
	inNode(t, "if @w then 0 fby x else g(x)", api.ErrUnknown)
	inNode(t, "if x then @(0 fby w) else g(x)", api.ErrPlace)
	inNode(t, "if x then x else @g(x)", api.ErrUnknown)
	inFlow(t, "n21(@w, 5)", api.ErrUnknown)
	inFlow(t, "n21(@5, w)", api.ErrPlace)
	inFlow(t, "n21(tail @n12(w), 5)", api.ErrArity)
	inFlow(t, "n21(x, @(w + 5))", api.ErrPlace)
	inFlow(t, "f21(@w fby w, g(x))", api.ErrPlace)
	wantEqs(t, "y = @w; x = x; z = x; v = x;", api.ErrUnknown)
	wantEqs(t, "@x = w; y = x; z = x; v = x;", api.ErrInput)
}
