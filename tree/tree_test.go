package tree

import (
	"math"
	"math/rand"
	"reflect"
	"runtime/debug"
	"slices"
	"strconv"
	"strings"
	"testing"
	"unsafe"

	"carillon/api"
)

func of(kind uint8, args ...api.Expr) api.Expr { return api.Expr{Kind: kind, Args: args} }
func variable(name string) api.Expr            { return api.Expr{Kind: api.ExVar, Name: name} }
func number(n int64) api.Expr                  { return api.Expr{Kind: api.ExInt, Int: n} }
func truth(n int64) api.Expr                   { return api.Expr{Kind: api.ExBool, Int: n} }

func call(name string, args ...api.Expr) api.Expr {
	return api.Expr{Kind: api.ExCall, Name: name, Args: args}
}

// times is n expressions, each a list of its own.
func times(n int, e api.Expr) []api.Expr {
	var list []api.Expr
	for range n {
		list = append(list, Copy(e))
	}
	return list
}

// chain is an expression of that depth, of one Arg each.
func chain(depth int) api.Expr {
	e := variable("x")
	for range depth - 1 {
		e = of(api.ExNeg, e)
	}
	return e
}

// rule is what the chapter's table says of a kind.
type rule struct {
	name        bool
	least, most int // of Args
	int, den    func(n int64) bool
}

func zero(n int64) bool      { return n == 0 }
func aboveZero(n int64) bool { return n >= 1 }
func notBelow(n int64) bool  { return n >= 0 }
func zeroOrOne(n int64) bool { return n == 0 || n == 1 }
func plain(count int) rule   { return rule{false, count, count, zero, zero} }
func kinds() []uint8         { return numbers(api.ExVar, api.ExLate) }
func noKinds() []uint8       { return append(numbers(27, 255), 0) }

func numbers(from, to uint8) (list []uint8) {
	for n := int(from); n <= int(to); n++ {
		list = append(list, uint8(n))
	}
	return list
}

func ruleOf(kind uint8) rule {
	switch kind {
	case api.ExVar:
		return rule{true, 0, 0, zero, zero}
	case api.ExInt:
		return rule{false, 0, 0, notBelow, zero}
	case api.ExBool:
		return rule{false, 0, 0, zeroOrOne, zero}
	case api.ExCall:
		return rule{true, 1, api.MaxArgs, zero, zero}
	case api.ExNeg, api.ExNot, api.ExTail:
		return plain(1)
	case api.ExIf:
		return plain(3)
	case api.ExUp, api.ExDown:
		return rule{false, 1, 1, aboveZero, zero}
	case api.ExLate:
		return rule{false, 1, 1, notBelow, aboveZero}
	}
	return plain(2)
}

// right is an expression of that kind that may be, as small as can be.
func right(kind uint8) api.Expr {
	r := ruleOf(kind)
	e := of(kind, times(r.least, variable("y"))...)
	if r.name {
		e.Name = "f"
	}
	if !r.int(0) {
		e.Int = 1
	}
	if !r.den(0) {
		e.Den = 1
	}
	return e
}

// P4.1: the chapter's example, ordinary trees, and trees that may not be.
func TestSizeDepth(t *testing.T) {
	wide := of(99, times(1000, number(1))...)
	for _, x := range []struct {
		e           api.Expr
		size, depth int
	}{
		{of(api.ExAdd, variable("x"), call("f", number(1), variable("y"))), 5, 3},
		{api.Expr{}, 1, 1},
		{api.Expr{Args: []api.Expr{}}, 1, 1},
		{number(7), 1, 1},
		{api.Expr{Kind: 255, Name: "-", Int: -1, Den: -1, At: -1}, 1, 1},
		{of(api.ExNeg, number(7)), 2, 2},
		{of(api.ExIf, truth(1), number(1), number(2)), 4, 2},
		{of(api.ExIf, chain(5), number(1), number(2)), 8, 6},
		{of(api.ExIf, number(1), chain(5), number(2)), 8, 6},
		{of(api.ExIf, number(1), number(2), chain(5)), 8, 6},
		{of(api.ExAdd, chain(3), of(api.ExAdd, chain(3), chain(4))), 12, 6},
		{of(api.ExVar, number(1), of(0, of(27)), number(1)), 5, 3}, // Args where none belong
		{wide, 1001, 2},
		{of(api.ExNeg, wide, wide), 2003, 3},
		{chain(api.MaxDepth), api.MaxDepth, api.MaxDepth},
		{chain(api.MaxDepth + 1), api.MaxDepth + 1, api.MaxDepth + 1},
		{chain(1000), 1000, 1000},
	} {
		if size, depth := Size(x.e), Depth(x.e); size != x.size || depth != x.depth {
			t.Errorf("%.60v: %d, %d, not %d, %d", x.e, size, depth, x.size, x.depth)
		}
	}
}

// P4.1
func TestLiteral(t *testing.T) {
	for _, x := range []struct {
		e    api.Expr
		val  int64
		kind uint8
		is   bool
	}{
		{number(0), 0, api.TInt, true},
		{number(5), 5, api.TInt, true},
		{number(math.MaxInt64), math.MaxInt64, api.TInt, true},
		{truth(0), 0, api.TBool, true},
		{truth(1), 1, api.TBool, true},
		{of(api.ExNeg, number(5)), -5, api.TInt, true},
		{of(api.ExNeg, number(0)), 0, api.TInt, true},
		{of(api.ExNeg, number(math.MaxInt64)), -math.MaxInt64, api.TInt, true},
		{api.Expr{Kind: api.ExInt, At: -3, Int: 2, Args: []api.Expr{}}, 2, api.TInt, true},
		{api.Expr{Kind: api.ExNeg, At: 3, Args: []api.Expr{{Kind: api.ExInt, At: 9, Int: 2}}}, -2, api.TInt, true},

		{number(-1), 0, 0, false},
		{number(math.MinInt64), 0, 0, false},
		{truth(2), 0, 0, false},
		{truth(-1), 0, 0, false},
		{api.Expr{Kind: api.ExInt, Name: "x"}, 0, 0, false},
		{api.Expr{Kind: api.ExInt, Den: 1}, 0, 0, false},
		{of(api.ExInt, number(1)), 0, 0, false},
		{api.Expr{Kind: api.ExBool, Name: "x"}, 0, 0, false},
		{api.Expr{Kind: api.ExBool, Den: 1}, 0, 0, false},
		{of(api.ExBool, truth(1)), 0, 0, false},
		{of(api.ExNeg), 0, 0, false},
		{of(api.ExNeg, number(1), number(2)), 0, 0, false},
		{of(api.ExNeg, truth(1)), 0, 0, false},
		{of(api.ExNeg, truth(0)), 0, 0, false},
		{of(api.ExNeg, variable("x")), 0, 0, false},
		{of(api.ExNeg, number(-1)), 0, 0, false},
		{of(api.ExNeg, number(math.MinInt64)), 0, 0, false},
		{of(api.ExNeg, api.Expr{Kind: api.ExInt, Den: 1}), 0, 0, false},
		{of(api.ExNeg, of(api.ExInt, number(1))), 0, 0, false},
		{of(api.ExNeg, of(api.ExNeg, number(1))), 0, 0, false},
		{api.Expr{Kind: api.ExNeg, Name: "x", Args: []api.Expr{number(1)}}, 0, 0, false},
		{api.Expr{Kind: api.ExNeg, Int: 1, Args: []api.Expr{number(1)}}, 0, 0, false},
		{api.Expr{Kind: api.ExNeg, Den: 1, Args: []api.Expr{number(1)}}, 0, 0, false},
		{of(api.ExNot, truth(1)), 0, 0, false},
		{of(api.ExTail, number(1)), 0, 0, false},
		{of(api.ExAdd, number(1), number(2)), 0, 0, false},
		{variable("x"), 0, 0, false},
		{api.Expr{}, 0, 0, false},
		{api.Expr{Kind: 27, Int: 1}, 0, 0, false},
		{api.Expr{Kind: 255, Int: 1}, 0, 0, false},
	} {
		if val, kind, is := Literal(x.e); val != x.val || kind != x.kind || is != x.is {
			t.Errorf("Literal(%v): %d, %d, %v", x.e, val, kind, is)
		}
	}
	for _, kind := range kinds() {
		if _, _, is := Literal(right(kind)); is != (kind == api.ExInt || kind == api.ExBool) {
			t.Errorf("Literal of kind %d: %v", kind, is)
		}
	}
}

// P4.4
func TestCalls(t *testing.T) {
	x := variable("x")
	for _, c := range []struct {
		e    api.Expr
		want string
	}{
		{of(api.ExAdd, x, call("f", number(1), variable("y"))), "f"},
		{x, ""},
		{api.Expr{}, ""},
		{of(api.ExIf, x, number(1), truth(1)), ""},
		{call("f", x), "f"},
		{call("f", call("g", x)), "f g"},
		{call("f", call("g", call("h", x)), call("k", x)), "f g h k"},
		{call("f", call("g", x), call("h", x), call("g", x)), "f g h g"},
		{call("f", call("f", call("f", x))), "f f f"},
		{of(api.ExAdd, call("b", x), call("a", x)), "b a"},
		{of(api.ExAdd, of(api.ExMul, call("d", x), call("c", x)), of(api.ExNeg, call("b", call("a", x)))), "d c b a"},
		{of(api.ExIf, call("z", x), of(api.ExTail, call("y", x)), call("x", call("w", x), x, call("v", x))), "z y x w v"},
		{of(99, call("f"), of(api.ExVar, call("1 2")), call("let", x)), "f 1 2 let"}, // what may not be
	} {
		if got := strings.Join(Calls(c.e), " "); got != c.want {
			t.Errorf("Calls(%v): %s, not %s", c.e, got, c.want)
		}
	}
	if got := Calls(of(api.ExNeg, call(""), call(""))); !slices.Equal(got, []string{"", ""}) {
		t.Errorf("%q of two calls without a name", got)
	}
	if got := Calls(of(api.ExNot, x)); len(got) != 0 {
		t.Errorf("%q of no call", got)
	}
}

// P4.4: other kinds' names count for nothing.
func TestCallsKinds(t *testing.T) {
	for kind := range 256 {
		e := api.Expr{Kind: uint8(kind), Name: "f", Args: []api.Expr{call("g", variable("x"))}}
		want := "g"
		if kind == int(api.ExCall) {
			want = "f g"
		}
		if got := strings.Join(Calls(e), " "); got != want {
			t.Errorf("kind %d: %s", kind, got)
		}
	}
}

// shape is an expression of any kind; now and then it is one that may not be.
func shape(r *rand.Rand, depth int) api.Expr {
	kind := uint8(1 + r.Intn(26))
	if depth <= 1 {
		kind = uint8(1 + r.Intn(3))
	}
	e := right(kind)
	for i := range e.Args {
		e.Args[i] = shape(r, depth-1)
	}
	if kind == api.ExCall {
		for range r.Intn(3) {
			e.Args = append(e.Args, shape(r, depth-1))
		}
	}
	if e.Name != "" {
		e.Name = "v" + strconv.Itoa(r.Intn(5))
	}
	e.At = r.Intn(100)
	if r.Intn(30) == 0 {
		e = spoilt(r, e)
	}
	return e
}

func spoilt(r *rand.Rand, e api.Expr) api.Expr {
	switch r.Intn(6) {
	case 0:
		e.Kind = uint8(r.Intn(256))
	case 1:
		e.Name = []string{"", "x", "fby", "1"}[r.Intn(4)]
	case 2:
		e.Int = r.Int63n(5) - 2
	case 3:
		e.Den = r.Int63n(5) - 2
	case 4:
		e.Args = append(e.Args, variable("z"))
	case 5:
		if len(e.Args) > 0 {
			e.Args = e.Args[1:]
		}
	}
	return e
}

func plainSize(e api.Expr) int {
	size := 1
	for _, a := range e.Args {
		size += plainSize(a)
	}
	return size
}

func plainDepth(e api.Expr) int {
	depth := 0
	for _, a := range e.Args {
		depth = max(depth, plainDepth(a))
	}
	return depth + 1
}

func plainCalls(e api.Expr) []string {
	var names []string
	if e.Kind == api.ExCall {
		names = []string{e.Name}
	}
	for _, a := range e.Args {
		names = append(names, plainCalls(a)...)
	}
	return names
}

// P4.1 and P4.4: against functions that call themselves; the tree stays as it was (R5).
func TestMadeTrees(t *testing.T) {
	r := rand.New(rand.NewSource(4))
	for range 3000 {
		e := shape(r, 1+r.Intn(7))
		kept := Copy(e)
		if Size(e) != plainSize(e) || Depth(e) != plainDepth(e) || !slices.Equal(Calls(e), plainCalls(e)) {
			t.Fatalf("%v: %d, %d, %q", e, Size(e), Depth(e), Calls(e))
		}
		if !reflect.DeepEqual(e, kept) {
			t.Fatalf("%v was %v", e, kept)
		}
	}
}

// R1: a tree that is deeper than calls can stand in each other, to the left, in the middle, to the right.
func TestVeryDeep(t *testing.T) {
	defer debug.SetMaxStack(debug.SetMaxStack(1 << 20))
	const depth = 200000
	for place := range 3 {
		e := call("f", variable("x"))
		for range depth {
			args := []api.Expr{variable("y"), variable("y"), variable("y")}
			args[place] = e
			e = of(api.ExIf, args...)
		}
		p := oneEq(e)
		if Size(e) != 3*depth+2 || Depth(e) != depth+2 || !slices.Equal(Calls(e), []string{"f"}) {
			t.Errorf("%d, %d, %q", Size(e), Depth(e), Calls(e))
		}
		if c := Copy(e); !Same(c, e) || Depth(c) != depth+2 || Same(c, chain(depth)) {
			t.Error("the copy is not the same")
		}
		if !SameProgram(p, CopyProgram(p)) || May(p) != api.ErrDeep {
			t.Errorf("the program: %v", May(p))
		}
		if _, _, is := Literal(e); is {
			t.Error("a literal")
		}
	}
}

// R5: what is answered has no memory of what was handed in, texts too.
func TestNewMemory(t *testing.T) {
	bytes := []byte("name")
	name := unsafe.String(&bytes[0], len(bytes))
	e := call(name, variable(name))
	params := []api.Param{{Name: name, Type: api.TInt}}
	p := api.Program{Nodes: []api.Node{{Name: name, Ins: params, Outs: params, Vars: params, Eqs: []api.Eq{{Names: []string{name}, E: e}}}}}
	names, again, all := Calls(e), Copy(e), CopyProgram(p)
	copy(bytes, "gone")
	if !slices.Equal(names, []string{"name"}) || !reflect.DeepEqual(again, call("name", variable("name"))) {
		t.Errorf("%q, %v, when the names are no more", names, again)
	}
	params = []api.Param{{Name: "name", Type: api.TInt}}
	want := api.Program{Nodes: []api.Node{{Name: "name", Ins: params, Outs: params, Vars: params, Eqs: []api.Eq{{Names: []string{"name"}, E: again}}}}}
	if !reflect.DeepEqual(all, want) {
		t.Errorf("%v, when the names are no more", all)
	}
}
