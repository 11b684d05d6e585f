package types

import (
	"strings"
	"testing"

	"carillon/api"
	"carillon/flat"
	"carillon/parse"
)

// wantSource asks Check of the flow m of src: for ErrType at the @ in it, or for nil if there is none.
func wantSource(t *testing.T, src string) {
	t.Helper()
	ahead, behind, marked := strings.Cut(src, "@")
	p, err := parse.Program(ahead + behind)
	if err != nil {
		t.Fatalf("%q: %v", src, err)
	}
	f, err := flat.Flatten(p, "m")
	if err != nil {
		t.Fatalf("%q: %v", src, err)
	}
	number := api.OK
	if marked {
		number = api.ErrType
	}
	wantCheck(t, src, f, len(ahead), number)
}

// P9.1, P9.2: sources, and where they are wrong.
func TestSource(t *testing.T) {
	const flow = "flow m(i: int rate(10, 0); b: bool rate(10, 0)) returns (o: int; p: bool) "
	for _, src := range []string{
		"node f(x: int; y: bool) returns (z: int; w: bool) let z = if y then x else -x % 2; w = not y or z >= 0 and x <> 1; tel ",
		"node f(x: int; y: bool) returns (z: int; w: bool) let z = @x < 1; w = y; tel ",
		"node f(x: int; y: bool) returns (z: int; w: bool) let z = x; w = @x; tel ",
		"node f(x: int; y: bool) returns (z: int; w: bool) let z = if @x then 1 else y; w = y; tel ",
		"node f(x: int; y: bool) returns (z: int; w: bool) let z = if y then 1 else @y; w = x; tel ",
		"node f(x: int; y: bool) returns (z: int; w: bool) let z = 1 + 2 * (@y = y); w = x; tel ",
		"node f(x: int; y: bool) returns (z: int; w: bool) let z = 1 + 2 * (y = @x); w = x; tel ",
		"node g(x: bool) returns (y: bool) let y = not x; tel node f(x: int; y: bool) returns (z: int; w: bool) let z = x; w = g(g(y)); tel ",
	} {
		wantSource(t, src+flow+"let (o, p) = f(i, b); tel")
	}
	const nodes = "node f(x: int; y: bool) returns (z: int; w: bool) let z = x; w = y; tel node n(x: bool) returns (y: bool) let y = not x; tel flow g(x: int) returns (y: int) let y = 3 fby x; tel "
	for _, eqs := range []string{
		"o = i; p = b;", "o = 5 fby -1 :: tail i; p = true fby n(false :: b);", "o = g(g(i *^ 2) /^ 2 ~> 1); p = n(n(b));", "(o, p) = f(7 fby g(i), n(b));", "o = 0 fby g(o); p = true :: p;",
		"o = @b; p = i;", "o = i; p = @i;", "o = @true fby i; p = 1 fby b;", "o = @5 fby true :: b; p = b;", "o = 5 fby @true :: i; p = b;",
		"(o, p) = f(@b, i);", "(o, p) = f(i, @1 fby i);", "(o, p) = f(i, @1 fby b);", "(p, o) = @f(i, b);", "o = i; p = n(@i);", "o = i; p = n(n(@i));", "o = @n(b); p = b;", "o = i; p = n(g(@b));", "o = i; p = n(@g(i));", "o = i; p = @g(i);",
	} {
		wantSource(t, nodes+flow+"let "+eqs+" tel")
	}
}

// P9.1: the chapter's examples.
func TestExamples(t *testing.T) {
	vars := []uint8{api.TInt, api.TBool}
	one, two := of(api.ExInt, 3), of(api.ExInt, 4)
	wantType(t, "the first + 1", of(api.ExAdd, 9, variable(0, 1), one), vars, api.TInt)
	wantType(t, "not the second", of(api.ExNot, 9, variable(1, 1)), vars, api.TBool)
	wantWrong(t, "the first + the second", of(api.ExAdd, 9, variable(0, 1), variable(1, 2)), vars, 2)
	wantWrong(t, "if the first then 1 else 2", of(api.ExIf, 9, variable(0, 1), one, two), vars, 1)
	wantWrong(t, "the first = the second", of(api.ExEq, 9, variable(0, 1), variable(1, 2)), vars, 2)
}
