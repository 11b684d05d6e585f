package types

import (
	"errors"
	"math"
	"reflect"
	"runtime/debug"
	"slices"
	"testing"

	"carillon/api"
)

// form is what a kind asks of its Args, and makes of them: i an int, b a bool, s (all of one type) any.
type form struct {
	kind uint8
	args string
	made byte
}

func forms() []form {
	return []form{
		{api.ExInt, "", 'i'}, {api.ExBool, "", 'b'}, {api.ExNeg, "i", 'i'}, {api.ExNot, "b", 'b'},
		{api.ExAdd, "ii", 'i'}, {api.ExSub, "ii", 'i'}, {api.ExMul, "ii", 'i'}, {api.ExDiv, "ii", 'i'}, {api.ExMod, "ii", 'i'},
		{api.ExEq, "ss", 'b'}, {api.ExNe, "ss", 'b'},
		{api.ExLt, "ii", 'b'}, {api.ExLe, "ii", 'b'}, {api.ExGt, "ii", 'b'}, {api.ExGe, "ii", 'b'},
		{api.ExAnd, "bb", 'b'}, {api.ExOr, "bb", 'b'}, {api.ExIf, "bss", 's'},
	}
}

func of(kind uint8, at int, args ...api.Expr) api.Expr {
	return api.Expr{Kind: kind, At: at, Args: args}
}

func variable(v int64, at int) api.Expr { return api.Expr{Kind: api.ExVar, Int: v, At: at} }

// The variables of most tests: 0 is an int, 1 a bool, 2 an int.
func few() []uint8 { return []uint8{api.TInt, api.TBool, api.TInt} }

// leaf is a variable of few of that type.
func leaf(t uint8, at int) api.Expr { return variable(int64(t)-1, at) }

// typed is the type that a letter of a form says; s is same.
func typed(letter byte, same uint8) uint8 {
	switch letter {
	case 'i':
		return api.TInt
	case 'b':
		return api.TBool
	}
	return same
}

func other(t uint8) uint8 { return api.TInt + api.TBool - t }

// right is an expression of the form at 100, its Args at 101 and so on, those of any type of the type same.
func right(f form, same uint8) api.Expr {
	e := of(f.kind, 100)
	for i := range f.args {
		e.Args = append(e.Args, leaf(typed(f.args[i], same), 101+i))
	}
	return e
}

// cloned is e again, with lists of its own.
func cloned(e api.Expr) api.Expr {
	e.Args = slices.Clone(e.Args)
	for i, arg := range e.Args {
		e.Args[i] = cloned(arg)
	}
	return e
}

// wantType asks for the type of e; e and vars stay as they were.
func wantType(t *testing.T, what string, e api.Expr, vars []uint8, want uint8) {
	t.Helper()
	before, varsBefore := cloned(e), slices.Clone(vars)
	got, err := Expr(e, vars)
	if got != want || err != nil {
		t.Errorf("%s: type %d, %v, not %d", what, got, err, want)
	}
	if !reflect.DeepEqual(e, before) || !slices.Equal(vars, varsBefore) {
		t.Errorf("%s: an argument was changed", what)
	}
}

// wantFault asks for an error that wraps the fault and its number.
func wantFault(t *testing.T, what string, err error, want api.Fault) {
	t.Helper()
	var got api.Fault
	if !errors.As(err, &got) || got != want || !errors.Is(err, want.Err) {
		t.Errorf("%s: %v, not %v", what, err, want)
	}
	if direct, is := err.(api.Fault); is {
		t.Errorf("%s: %v does not wrap its fault", what, direct)
	}
}

// wantWrong asks for ErrType at that place, beside no type.
func wantWrong(t *testing.T, what string, e api.Expr, vars []uint8, at int) {
	t.Helper()
	before := cloned(e)
	got, err := Expr(e, vars)
	wantFault(t, what, err, api.Fault{At: at, Err: api.ErrType})
	if got != 0 {
		t.Errorf("%s: type %d beside an error", what, got)
	}
	if !reflect.DeepEqual(e, before) {
		t.Errorf("%s: an argument was changed", what)
	}
}

// P9.1: each kind whose Args are right.
func TestExprRight(t *testing.T) {
	for _, f := range forms() {
		for _, same := range []uint8{api.TInt, api.TBool} {
			wantType(t, "a kind", right(f, same), few(), typed(f.made, same))
			if t.Failed() {
				t.Fatalf("kind %d", f.kind)
			}
		}
	}
	wantType(t, "an int", variable(0, 1), few(), api.TInt)
	wantType(t, "a bool", variable(1, 1), few(), api.TBool)
	wantType(t, "the last one", variable(2, 1), few(), api.TInt)
}

// P9.1: each kind of whose Args one is not of the type that is asked, and stands alone with that.
func TestExprWrongArg(t *testing.T) {
	for _, f := range forms() {
		for i := range f.args {
			for _, same := range []uint8{api.TInt, api.TBool} {
				e := right(f, same)
				e.Args[i] = leaf(other(typed(f.args[i], same)), 200)
				at := 200
				if f.args[i] == 's' && i < len(f.args)-1 { // the first of two of one type is right, so the second is not
					at = e.Args[i+1].At
				}
				wantWrong(t, "an Arg", e, few(), at)
				if t.Failed() {
					t.Fatalf("kind %d, Arg %d", f.kind, i)
				}
			}
		}
	}
}

// P9.1: of several Args of wrong types the first is told.
func TestExprWrongArgs(t *testing.T) {
	for _, f := range forms() {
		for i := range f.args {
			if f.args[i] == 's' {
				continue
			}
			e := right(f, api.TInt)
			for n := i; n < len(f.args); n++ {
				e.Args[n] = leaf(other(typed(f.args[n], api.TInt)), 200+n)
			}
			wantWrong(t, "many Args", e, few(), 200+i)
		}
	}
	wantWrong(t, "an if of no truth, and of two types", of(api.ExIf, 1, leaf(api.TInt, 2), leaf(api.TInt, 3), leaf(api.TBool, 4)), few(), 2)
	wantWrong(t, "an if of two types", of(api.ExIf, 1, leaf(api.TBool, 2), leaf(api.TInt, 3), leaf(api.TBool, 4)), few(), 4)
	wantWrong(t, "an if of two types", of(api.ExIf, 1, leaf(api.TBool, 2), leaf(api.TBool, 3), leaf(api.TInt, 4)), few(), 4)
}

// P9.1: kinds that no body has, and too few or too many Args, are told at the expression itself, whatever its Args are.
func TestExprArgs(t *testing.T) {
	asked := make(map[uint8]int)
	asked[api.ExVar] = 0
	for _, f := range forms() {
		asked[f.kind] = len(f.args)
	}
	for kind := range 256 {
		for many := range 6 {
			for _, arg := range []api.Expr{leaf(api.TInt, 2), leaf(api.TBool, 2), variable(-1, 2), of(0, 2)} {
				is, there := asked[uint8(kind)]
				if there && is == many {
					continue
				}
				e := of(uint8(kind), 100, slices.Repeat([]api.Expr{arg}, many)...)
				wantWrong(t, "Args", e, few(), 100)
				if t.Failed() {
					t.Fatalf("kind %d of %d", kind, many)
				}
			}
		}
	}
	if len(asked) != int(api.ExIf)-int(api.ExVar) {
		t.Errorf("%d kinds, not all but ExCall", len(asked))
	}
}

// P9.1: kinds that no body has, with Args that they may have elsewhere.
func TestExprKinds(t *testing.T) {
	i, b := leaf(api.TInt, 2), leaf(api.TBool, 2)
	for _, e := range []api.Expr{
		{Kind: api.ExCall, At: 1, Name: "f", Args: []api.Expr{i}}, of(api.ExFby, 1, of(api.ExInt, 2), i), of(api.ExCons, 1, of(api.ExBool, 2), b),
		of(api.ExTail, 1, i), {Kind: api.ExUp, At: 1, Int: 2, Args: []api.Expr{i}}, {Kind: api.ExDown, At: 1, Int: 2, Args: []api.Expr{b}},
		{Kind: api.ExLate, At: 1, Int: 1, Den: 2, Args: []api.Expr{i}}, of(0, 1), of(api.ExLate+1, 1), of(255, 1, i, i),
	} {
		wantWrong(t, "a kind that no body has", e, few(), 1)
		wantWrong(t, "the same within", of(api.ExNeg, 5, e), few(), 1)
	}
}

// P9.1: numbers of variables.
func TestExprVars(t *testing.T) {
	for _, vars := range [][]uint8{nil, {}, {api.TBool}, few(), slices.Repeat([]uint8{api.TBool}, api.MaxVars)} {
		many := int64(len(vars))
		for _, v := range []int64{-1, -2, math.MinInt64, many, many + 1, 1 << 31, 1 << 32, 1<<32 + 1, -1 << 32, 1 << 62, math.MaxInt64 - 1, math.MaxInt64} {
			wantWrong(t, "a variable that is not there", variable(v, 7), vars, 7)
			wantWrong(t, "the same within", of(api.ExEq, 1, of(api.ExInt, 2), variable(v, 7)), vars, 7)
		}
		for v := range vars {
			wantType(t, "a variable", variable(int64(v), 7), vars, vars[v])
		}
	}
	sum := of(api.ExAdd, 1, of(api.ExInt, 2), of(api.ExInt, 3))
	wantType(t, "no variables at all", sum, nil, api.TInt)
	wantType(t, "no variables at all", of(api.ExNot, 1, of(api.ExEq, 2, sum, sum)), []uint8{}, api.TBool)
}

// P9.1: a variable is of the type that is told of it, whatever that is; what else an expression has counts for nothing.
func TestExprOdd(t *testing.T) {
	for odd := range 256 {
		vars := []uint8{uint8(odd), api.TInt, api.TBool, uint8(odd) + 1}
		v, w := variable(0, 1), variable(3, 2)
		wantType(t, "a variable", v, vars, uint8(odd))
		wantType(t, "two of one type", of(api.ExNe, 5, v, variable(0, 2)), vars, api.TBool)
		wantType(t, "two of one type", of(api.ExIf, 5, variable(2, 6), v, variable(0, 2)), vars, uint8(odd))
		wantWrong(t, "two of two types", of(api.ExEq, 5, v, w), vars, 2)
		wantWrong(t, "two of two types", of(api.ExIf, 5, variable(2, 6), w, v), vars, 1)
		if t := uint8(odd); t == api.TInt || t == api.TBool {
			continue
		}
		wantWrong(t, "no int", of(api.ExNeg, 5, v), vars, 1)
		wantWrong(t, "no int", of(api.ExLt, 5, variable(1, 6), v), vars, 1)
		wantWrong(t, "no bool", of(api.ExNot, 5, v), vars, 1)
		wantWrong(t, "no truth", of(api.ExIf, 5, v, variable(1, 6), variable(1, 6)), vars, 1)
		wantWrong(t, "no int", of(api.ExEq, 5, variable(1, 6), v), vars, 1)
	}
	for _, e := range []api.Expr{
		{Kind: api.ExInt, Int: -5, Name: "n", Den: 3}, {Kind: api.ExInt, Int: math.MinInt64, Args: []api.Expr{}},
		{Kind: api.ExVar, Int: 2, Name: "n", Den: -1}, {Kind: api.ExNeg, Int: 9, Name: "n", Den: 2, Args: []api.Expr{variable(0, 1)}},
	} {
		wantType(t, "an int", e, few(), api.TInt)
	}
	wantType(t, "a bool", api.Expr{Kind: api.ExBool, Int: 7, Name: "n", Den: 3}, few(), api.TBool)
	wantWrong(t, "a place below 0", of(api.ExNeg, 1, leaf(api.TBool, -5)), few(), -5)
	wantWrong(t, "the least place", of(0, math.MinInt), few(), math.MinInt)
}

// P9.1: which of two faults is told.
func TestExprFirst(t *testing.T) {
	i, b := leaf(api.TInt, 1), leaf(api.TBool, 2)
	bad := of(api.ExNot, 50, variable(9, 51))
	for _, c := range []struct {
		what string
		e    api.Expr
		at   int
	}{
		{"too many Args, and one that is wrong", of(api.ExNeg, 10, bad, i), 10},
		{"a variable that is not there, with an Arg that is wrong", api.Expr{Kind: api.ExVar, Int: 9, At: 10, Args: []api.Expr{bad}}, 10},
		{"a variable with an Arg", api.Expr{Kind: api.ExVar, At: 10, Args: []api.Expr{bad}}, 10},
		{"within an Arg, ahead of its type", of(api.ExNeg, 10, bad), 51},
		{"a type within an Arg, ahead of its type", of(api.ExNeg, 10, of(api.ExNot, 11, leaf(api.TInt, 12))), 12},
		{"an Arg's own type", of(api.ExNeg, 10, of(api.ExNot, 11, b)), 11},
		{"an Arg itself, ahead of what is within", of(api.ExNot, 10, of(api.ExNeg, 11, bad, bad)), 11},
		{"the first Arg's type, ahead of what is within the second", of(api.ExAdd, 10, b, bad), 2},
		{"the first Arg's type, ahead of the second's", of(api.ExAdd, 10, b, leaf(api.TBool, 12)), 2},
		{"within the first Arg, ahead of the second's type", of(api.ExAdd, 10, of(api.ExNeg, 11, leaf(api.TBool, 12)), b), 12},
		{"within the second Arg, the first is right", of(api.ExAdd, 10, i, of(api.ExNeg, 11, leaf(api.TBool, 12))), 12},
		{"within the second of two of one type", of(api.ExEq, 10, b, of(api.ExNeg, 11, leaf(api.TBool, 12))), 12},
		{"within the first of two of one type", of(api.ExEq, 10, of(api.ExNeg, 11, leaf(api.TBool, 12)), bad), 12},
		{"the second of two of one type, which is no leaf", of(api.ExEq, 10, b, of(api.ExNeg, 11, i)), 11},
		{"the first Arg of an if, ahead of what is within the second", of(api.ExIf, 10, i, bad, bad), 1},
		{"within the second Arg of an if, ahead of the third's type", of(api.ExIf, 10, b, bad, i), 51},
		{"within the third Arg of an if, ahead of its type", of(api.ExIf, 10, b, i, bad), 51},
		{"the third Arg of an if, which is no leaf", of(api.ExIf, 10, b, i, of(api.ExNot, 11, b)), 11},
		{"the first Arg of an if, which is no leaf", of(api.ExIf, 10, of(api.ExNeg, 11, i), i, b), 11},
		{"an if's type is that of its second and third", of(api.ExNeg, 10, of(api.ExIf, 11, b, leaf(api.TBool, 12), b)), 11},
		{"a comparison's type", of(api.ExAdd, 10, i, of(api.ExEq, 11, i, i)), 11},
		{"far on the right", of(api.ExAnd, 10, b, of(api.ExOr, 11, b, of(api.ExNot, 12, of(api.ExGe, 13, i, leaf(api.TBool, 14))))), 14},
		{"far on the left", of(api.ExAnd, 10, of(api.ExOr, 11, of(api.ExNot, 12, of(api.ExGe, 13, leaf(api.TBool, 14), i)), i), i), 14},
	} {
		wantWrong(t, c.what, c.e, few(), c.at)
	}
}

// nested is so many expressions of one Arg, one in the other, around e.
func nested(kind uint8, many int, e api.Expr) api.Expr {
	for n := range many {
		e = of(kind, n, e)
	}
	return e
}

// R1: no expression is too deep, or too great.
func TestExprDeep(t *testing.T) {
	defer debug.SetMaxStack(debug.SetMaxStack(1 << 22)) // so that calls in each other would not do
	const many = 300000
	for _, c := range []struct {
		e    api.Expr
		want uint8
		at   int
	}{
		{nested(api.ExNeg, many, leaf(api.TInt, -1)), api.TInt, 0}, {nested(api.ExNot, many, leaf(api.TBool, -1)), api.TBool, 0},
		{nested(api.ExNeg, many, variable(9, -1)), 0, -1}, {nested(api.ExNeg, many, leaf(api.TBool, -2)), 0, -2},
		{nested(api.ExNeg, many, nested(api.ExNot, many, leaf(api.TBool, -1))), 0, many - 1},
	} {
		got, err := Expr(c.e, few())
		var fault api.Fault
		if errors.As(err, &fault); got != c.want || fault.At != c.at || (err == nil) != (c.want != 0) {
			t.Errorf("type %d, %v, not %d, %d", got, err, c.want, c.at)
		}
	}
	wantWrong(t, "very many Args", of(api.ExAdd, 5, make([]api.Expr, 1000000)...), few(), 5)
}
