package flat

import (
	"strings"
	"testing"

	"carillon/api"
)

// inner is what the tests' nodes call: one, two and ten have one input and one output, pair and swap have two outputs, both of two inputs.
const inner = `
node one(x: int) returns (y: int) let y = x; tel
node two(x: int) returns (y: bool) var z: bool; let y = not z; z = x > 0; tel
node pair(x: int) returns (y: int; z: bool) let z = x = 1; y = x * x; tel
node swap(x: int; w: bool) returns (y: bool; z: int) let (z, y) = pair(x); tel
node ten(x: int) returns (y: int) var u: bool; let (u, y) = swap(one(x), two(x)); tel
`

// ofNode is a program of those, the node n, and a flow main that calls it: of two inputs, i and j.
func ofNode(node string) string {
	return inner + node + " flow m(i: int rate (5, 0); j: bool rate (5, 0)) returns (o: int) let o = n(i, j); tel"
}

// wantBody asks for the body of a node n of the inputs x and b, the output y, with these variables and equations.
func wantBody(t *testing.T, vars, eqs, want string) {
	t.Helper()
	if vars != "" {
		vars = "var " + vars + ";"
	}
	p := program(t, ofNode("node n(x: int; b: bool) returns (y: int) "+vars+" let "+eqs+" tel"))
	f := flattened(t, p)
	if len(f.Bodies) != 1 {
		t.Fatalf("%d bodies", len(f.Bodies))
	}
	if got := bodyText(t, f.Bodies[0]); got != "n(int bool) "+want {
		t.Errorf("%s: %q, not %q", eqs, got, "n(int bool) "+want)
	}
}

// P8.1: bodies without calls: variables in their order, expressions as they are.
func TestBody(t *testing.T) {
	wantBody(t, "", "y = x;", "int; v2 = v0; v2")
	wantBody(t, "", "y = 1;", "int; v2 = 1; v2")
	wantBody(t, "", "y = if b and not (x > -3) or true then x * x - 7 / x % 2 else -x + 0;",
		"int; v2 = if v1 and not v0 > -3 or true then v0 * v0 - 7 / v0 % 2 else -v0 + 0; v2")
	wantBody(t, "", "y = x <> 1 and x <= 2 and x >= 3 and x < 4 and x = 5;", "int; v2 = v0 <> 1 and v0 <= 2 and v0 >= 3 and v0 < 4 and v0 = 5; v2")
	wantBody(t, "c: bool; d: int", "c = not b; d = x; y = d;", "int bool int; v3 = not v1; v4 = v0; v2 = v4; v2")
}

// P8.1: calls as whole right sides, as parts, and within Args.
func TestBodyCalls(t *testing.T) {
	wantBody(t, "", "y = one(x);", "int int int; v3 = v0; v4 = v3; v2 = v4; v2")
	wantBody(t, "", "y = one(x) + 1;", "int int int; v3 = v0; v4 = v3; v2 = v4 + 1; v2")
	wantBody(t, "", "y = one(1) - one(2);", "int int int int int; v3 = 1; v4 = v3; v5 = 2; v6 = v5; v2 = v4 - v6; v2")
	wantBody(t, "", "y = one(one(x));", "int int int int int; v3 = v0; v4 = v3; v5 = v4; v6 = v5; v2 = v6; v2")
	wantBody(t, "", "y = one(3 - one(x) * x);", "int int int int int; v3 = v0; v4 = v3; v5 = 3 - v4 * v0; v6 = v5; v2 = v6; v2")
	wantBody(t, "c: bool", "(y, c) = pair(x);", "int bool int int bool; v4 = v0; v6 = v4 = 1; v5 = v4 * v4; v2 = v5; v3 = v6; v2")
	wantBody(t, "c: bool", "(c, y) = pair(x);", "int bool int int bool; v4 = v0; v6 = v4 = 1; v5 = v4 * v4; v3 = v5; v2 = v6; v2")
	wantBody(t, "c: bool", "(c, y) = swap(x, b);",
		"int bool int bool bool int int int bool; v4 = v0; v5 = v1; v8 = v4; v10 = v8 = 1; v9 = v8 * v8; v7 = v9; v6 = v10; v3 = v6; v2 = v7; v2")
}

// P8.1: nodes that call nodes that call nodes, with Args that call again.
func TestBodyWithin(t *testing.T) {
	wantBody(t, "", "y = ten(x);", "int int int bool int int int bool bool int bool bool int int int bool; "+
		"v3 = v0; v6 = v3; v7 = v6; v8 = v3; v10 = v8 > 0; v9 = not v10; v11 = v7; v12 = v9; "+
		"v15 = v11; v17 = v15 = 1; v16 = v15 * v15; v14 = v16; v13 = v17; v5 = v13; v4 = v14; v2 = v4; v2")
	wantBody(t, "", "y = if two(one(x)) then one(x) else 2;", "int int int int bool bool int int; "+
		"v3 = v0; v4 = v3; v5 = v4; v7 = v5 > 0; v6 = not v7; v8 = v0; v9 = v8; v2 = if v6 then v9 else 2; v2")
}

// P8.1: equations in order: again and again the first of those left that uses no variable that one of those left tells.
func TestBodyOrder(t *testing.T) {
	wantBody(t, "c: int; d: int", "y = c; c = d; d = x;", "int int int; v4 = v0; v3 = v4; v2 = v3; v2")
	wantBody(t, "c: int; d: int", "y = d; c = 1; d = c;", "int int int; v3 = 1; v4 = v3; v2 = v4; v2")
	wantBody(t, "c: int; d: int; e: int", "y = c + e; c = 1; d = e; e = 2;", "int int int int; v3 = 1; v5 = 2; v2 = v3 + v5; v4 = v5; v2")
	wantBody(t, "c: int; d: int; e: int", "d = 3; y = e; c = 1; e = 2;", "int int int int; v4 = 3; v3 = 1; v5 = 2; v2 = v5; v2")
	wantBody(t, "c: bool", "y = if c then 1 else x; c = two(x);",
		"int bool int bool bool; v4 = v0; v6 = v4 > 0; v5 = not v6; v3 = v5; v2 = if v3 then 1 else v0; v2")
	wantBody(t, "c: bool; d: int", "(y, c) = pair(x); d = one(y);",
		"int bool int int int bool int int; v5 = v0; v7 = v5 = 1; v6 = v5 * v5; v2 = v6; v3 = v7; v8 = v2; v9 = v8; v4 = v9; v2")
}

// P8.1: a node whose output needs less than all of its inputs may be called by what it makes.
func TestBodyBack(t *testing.T) {
	src := `node apart(x: int; w: int) returns (y: int; z: int) let y = x; z = w; tel
node n(x: int) returns (y: int) var u: int; let (u, y) = apart(x, u); tel flow m(i: int rate (5, 0)) returns (o: int) let o = n(i); tel`
	f := flattened(t, program(t, src))
	if got := bodyText(t, f.Bodies[0]); got != "n(int) int int int int int int; v3 = v0; v5 = v3; v2 = v5; v4 = v2; v6 = v4; v1 = v6; v1" {
		t.Error(got)
	}
}

// P8.1: outputs of a body in their order; several bodies, each with variables of its own.
func TestBodyOuts(t *testing.T) {
	src := `node n(x: int) returns (y: int; z: bool; w: int) let w = 3; z = true; y = x; tel node k(x: bool) returns (y: bool) let y = x; tel
flow m(i: int rate (5, 0)) returns (o: int) var p: bool; q: int; let (o, p, q) = n(i); tel`
	f := flattened(t, program(t, src))
	if got := bodyText(t, f.Bodies[0]); got != "n(int) int bool int; v3 = 3; v2 = true; v1 = v0; v1 v2 v3" {
		t.Error(got)
	}
	src = strings.NewReplacer("q: int;", "q: int; r: bool;", "n(i);", "n(i); r = k(p);").Replace(src)
	f = flattened(t, program(t, src))
	if got := bodyText(t, f.Bodies[1]); len(f.Bodies) != 2 || got != "k(bool) bool; v1 = v0; v1" {
		t.Error(got)
	}
}

// P8.1: equations that can't be put in order are told at the first of those left.
func TestLoops(t *testing.T) {
	for _, nodes := range []string{
		"node n(x: int; b: bool) returns (y: int) let @y = y; tel",
		"node n(x: int; b: bool) returns (y: int) let @y = x + (if b then y else 1); tel",
		"node n(x: int; b: bool) returns (y: int) var u: int; v: int; let @y = u; u = v; v = y; tel",
		"node n(x: int; b: bool) returns (y: int) var u: int; v: int; let u = x; @v = y + u; y = v; tel",
		"node n(x: int; b: bool) returns (y: int) var u: int; v: int; let y = x; @v = u; u = v; tel",
		"node n(x: int; b: bool) returns (y: int) var u: int; v: int; let @y = u; u = u; v = x; tel",
		"node n(x: int; b: bool) returns (y: int) var u: int; v: int; let u = x; v = u; @y = y - v; tel",
		// Of a node's input: its call.
		"node n(x: int; b: bool) returns (y: int) let y = @one(y); tel",
		"node n(x: int; b: bool) returns (y: int) let y = 1 + @one(x + y); tel",
		"node n(x: int; b: bool) returns (y: int) let y = one(1) + one(@one(x + y)); tel",
		"node n(x: int; b: bool) returns (y: int) var u: bool; let (u, y) = @swap(y, b); tel",
		// Of what a call tells: its equation, if all that is called can be put in order without it.
		"node n(x: int; b: bool) returns (y: int) var u: int; let @u = y; y = one(u); tel",
		"node n(x: int; b: bool) returns (y: int) var u: int; let y = @one(u); u = y; tel",
		// Of what is called: its equations; of a whole right side there that is a call: that equation.
		"node k(x: int) returns (y: int) let @y = y + x; tel node n(x: int; b: bool) returns (y: int) let y = k(x); tel",
		"node k(x: int) returns (y: int) let y = @one(y + x); tel node n(x: int; b: bool) returns (y: int) let y = one(k(x)); tel",
		"node k(x: int) returns (y: int) let y = x; tel node n(x: int; b: bool) returns (y: int) var u: int; let u = k(x); y = @k(y); tel",
		"node k(x: int) returns (y: int; z: int) var w: int; let @y = z; z = w + y; w = x; tel node n(x: int; b: bool) returns (y: int) var u: int; let (y, u) = k(x); tel",
	} {
		ahead, _, _ := strings.Cut(inner+nodes, "@")
		p := program(t, ofNode(strings.Replace(nodes, "@", "", 1)))
		wantFault(t, nodes, p, api.Fault{At: len(ahead), Err: api.ErrLoop})
	}
}
