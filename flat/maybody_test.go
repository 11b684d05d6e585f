package flat

import (
	"math"
	"slices"
	"testing"

	"carillon/api"
)

// wantBodies asks of the sample, to which these bodies are added, whether it may be.
func wantBodies(t *testing.T, what string, want api.Errno, bodies ...api.Body) {
	t.Helper()
	f := sample()
	f.Bodies = append(f.Bodies, bodies...)
	wantMay(t, what, f, want)
}

// types are so many variables.
func types(many int) []uint8 { return slices.Repeat([]uint8{api.TInt}, many) }

// told is a body of so many variables, each of which but the inputs is told to be 1; outs are the last ones.
func told(ins, vars, outs int) api.Body {
	b := api.Body{Name: "k", Ins: ins, Vars: types(vars)}
	for v := ins; v < vars; v++ {
		b.Eqs = append(b.Eqs, api.BodyEq{Var: v, E: number(1)})
	}
	for i := range outs {
		b.Outs = append(b.Outs, max(0, vars-1-i))
	}
	return b
}

// P8.2: how many variables, inputs and outputs a body has.
func TestMayBodyCounts(t *testing.T) {
	for _, c := range []struct {
		ins, vars, outs int
		ok              bool
	}{
		{1, 1, 1, true}, {1, 2, 1, true}, {2, 2, 1, true}, {1, 2, 2, true}, {3, 5, 2, true},
		{0, 0, 0, false}, {0, 0, 1, false}, {0, 1, 1, false}, {-1, 1, 1, false}, {math.MinInt, 1, 1, false}, {1, 1, 0, false}, {2, 3, 0, false},
		{2, 1, 1, false}, {3, 2, 1, false}, {math.MaxInt, 2, 1, false}, {1, 0, 1, false},
		{api.MaxParams, api.MaxParams, 1, true}, {api.MaxParams + 1, api.MaxParams + 1, 1, false}, {api.MaxParams, api.MaxParams + 2, 1, true}, {api.MaxParams + 1, api.MaxParams + 2, 1, false},
		{1, 100, api.MaxParams, true}, {1, 100, api.MaxParams + 1, false}, {1, 100, 90, false},
		{1, api.MaxVars, 1, true}, {1, api.MaxVars + 1, 1, false}, {5, api.MaxVars + 100, 1, false},
	} {
		ins := max(0, min(c.ins, c.vars))
		b := told(ins, c.vars, c.outs)
		b.Ins = c.ins
		wantBodies(t, "a body", okOr(c.ok, api.ErrShape), b)
		if t.Failed() {
			t.Fatalf("%+v", c)
		}
	}
}

// P8.2: each variable of a body but the inputs is told just once, and what it uses is told ahead.
func TestMayBodyEqs(t *testing.T) {
	eqs := func(list ...api.BodyEq) api.Body {
		return api.Body{Ins: 2, Vars: types(4), Eqs: list, Outs: []int{3}}
	}
	one := number(1)
	for _, c := range []struct {
		what string
		eqs  []api.BodyEq
		ok   bool
	}{
		{"both", []api.BodyEq{{Var: 2, E: one}, {Var: 3, E: one}}, true},
		{"another order", []api.BodyEq{{Var: 3, E: one}, {Var: 2, E: one}}, true},
		{"one alone", []api.BodyEq{{Var: 3, E: one}}, false},
		{"none", nil, false},
		{"one twice", []api.BodyEq{{Var: 3, E: one}, {Var: 3, E: one}}, false},
		{"one twice, and the other one", []api.BodyEq{{Var: 2, E: one}, {Var: 3, E: one}, {Var: 2, E: one}}, false},
		{"an input", []api.BodyEq{{Var: 1, E: one}, {Var: 2, E: one}}, false},
		{"an input, too", []api.BodyEq{{Var: 1, E: one}, {Var: 2, E: one}, {Var: 3, E: one}}, false},
		{"one that is not there", []api.BodyEq{{Var: 2, E: one}, {Var: 4, E: one}}, false},
		{"one below all", []api.BodyEq{{Var: 2, E: one}, {Var: -1, E: one}}, false},
		{"one below all, too", []api.BodyEq{{Var: math.MinInt, E: one}, {Var: 2, E: one}, {Var: 3, E: one}}, false},
		{"uses of what is ahead", []api.BodyEq{{Var: 3, E: numbered(1)}, {Var: 2, E: of(api.ExSub, numbered(0), numbered(3))}}, true},
		{"uses of what is behind", []api.BodyEq{{Var: 2, E: of(api.ExSub, numbered(0), numbered(3))}, {Var: 3, E: numbered(1)}}, false},
		{"uses of itself", []api.BodyEq{{Var: 2, E: one}, {Var: 3, E: numbered(3)}}, false},
		{"uses of itself within", []api.BodyEq{{Var: 2, E: one}, {Var: 3, E: of(api.ExIf, numbered(0), numbered(0), of(api.ExNot, numbered(3)))}}, false},
		{"uses of the one ahead", []api.BodyEq{{Var: 2, E: one}, {Var: 3, E: of(api.ExIf, numbered(0), numbered(0), of(api.ExNot, numbered(2)))}}, true},
	} {
		wantBodies(t, c.what, okOr(c.ok, api.ErrShape), eqs(c.eqs...))
	}
	for _, v := range []int64{math.MinInt64, -1, 0, 1, 2, 3, 4, 1 << 32, math.MaxInt64} {
		ok := okOr(v >= 0 && v <= 2, api.ErrShape)
		wantBodies(t, "a variable by its number", ok, eqs(api.BodyEq{Var: 2, E: one}, api.BodyEq{Var: 3, E: numbered(v)}))
		wantBodies(t, "the number within", ok, eqs(api.BodyEq{Var: 2, E: one}, api.BodyEq{Var: 3, E: of(api.ExAnd, one, numbered(v))}))
	}
	for _, v := range []int{math.MinInt, -1, 4, 5, math.MaxInt} {
		b := eqs(api.BodyEq{Var: 2, E: one}, api.BodyEq{Var: 3, E: one})
		b.Outs = []int{0, v}
		wantBodies(t, "an output that is not there", api.ErrShape, b)
	}
}

// argsOf is how many Args a kind has in a body; below 0: there is no such kind there.
func argsOf(kind uint8) int {
	switch {
	case kind >= api.ExVar && kind <= api.ExBool:
		return 0
	case kind == api.ExNeg || kind == api.ExNot:
		return 1
	case kind >= api.ExAdd && kind <= api.ExOr:
		return 2
	case kind == api.ExIf:
		return 3
	}
	return -1
}

// wantExpr asks whether a body may have e, alone and within.
func wantExpr(t *testing.T, e api.Expr, ok bool) {
	t.Helper()
	for _, e := range []api.Expr{e, of(api.ExNot, of(api.ExAdd, number(1), e)), of(api.ExIf, e, number(1), numbered(0))} {
		b := api.Body{Ins: 1, Vars: types(2), Eqs: []api.BodyEq{{Var: 1, E: e}}, Outs: []int{1}}
		wantBodies(t, "an expression", okOr(ok, api.ErrShape), b)
	}
	if t.Failed() {
		t.Fatalf("%+v", e)
	}
}

// P8.2: expressions of every kind with each number of Args, and each field at its edges.
func TestMayExprs(t *testing.T) {
	kinds := []uint8{255, 128}
	for kind := range api.ExLate + 3 {
		kinds = append(kinds, kind)
	}
	edges := []int64{math.MinInt64, -1, 0, 1, 2, math.MaxInt64}
	for _, kind := range kinds {
		for many := range 5 {
			wantExpr(t, api.Expr{Kind: kind, Args: slices.Repeat([]api.Expr{number(1)}, many)}, many == argsOf(kind))
		}
		args := slices.Repeat([]api.Expr{numbered(0)}, max(0, argsOf(kind)))
		for _, n := range edges {
			for _, den := range edges {
				for _, name := range []string{"", "x", "v"} {
					ok := argsOf(kind) >= 0 && den == 0 && name == "" && n == 0
					switch kind {
					case api.ExInt:
						ok = den == 0 && name == "" && n >= 0
					case api.ExBool:
						ok = den == 0 && name == "" && (n == 0 || n == 1)
					}
					wantExpr(t, api.Expr{Kind: kind, Int: n, Den: den, Name: name, At: int(n), Args: args}, ok)
				}
			}
		}
	}
	wantExpr(t, of(api.ExFby, number(1), numbered(0)), false)
	wantExpr(t, api.Expr{Kind: api.ExUp, Int: 2, Args: []api.Expr{numbered(0)}}, false)
	wantExpr(t, api.Expr{Kind: api.ExCall, Name: "f", Args: []api.Expr{numbered(0)}}, false)
	wantExpr(t, api.Expr{Kind: api.ExVar, Args: []api.Expr{}}, true)
}

// P8.2: each equation of each body is looked at.
func TestMayEachBody(t *testing.T) {
	for i, b := range sample().Bodies {
		for k := range b.Eqs {
			wantChanged(t, "an equation", api.ErrShape, func(f *api.Flat) { f.Bodies[i].Eqs[k].E = number(-1) })
		}
	}
}
