package flat

import (
	"slices"
	"testing"

	"carillon/api"
)

// copiesOf is a program of an input and so many copies of it.
func copiesOf(many int) api.Flat {
	f := api.Flat{Vars: []api.FlatVar{{Type: api.TInt}}, Ins: []api.FlatIn{{Var: 0, Period: 1}}}
	for range many {
		f.Copies = append(f.Copies, api.Copy{Var: len(f.Vars)})
		f.Vars = append(f.Vars, api.FlatVar{Type: api.TInt})
	}
	return f
}

// callsOf is a program of an input and so many calls.
func callsOf(many int) api.Flat {
	f := copiesOf(0)
	f.Bodies = []api.Body{told(1, 2, 1)}
	for range many {
		f.Calls = append(f.Calls, api.Call{Args: make([]api.Chain, 1), Outs: []int{len(f.Vars)}})
		f.Vars = append(f.Vars, api.FlatVar{Type: api.TInt})
	}
	return f
}

// deep is an expression of that depth, which is its size, too.
func deep(depth int) api.Expr {
	e := number(1)
	for range depth - 1 {
		e = of(api.ExNot, e)
	}
	return e
}

// work is bodies whose expressions have that size in all, and each at most that depth.
func work(size, depth int) []api.Body {
	var bodies []api.Body
	for size > 0 {
		b := told(1, 1+min(40, (size+depth-1)/depth), 1)
		for i := range b.Eqs {
			part := min(depth, size)
			b.Eqs[i].E = deep(part)
			size -= part
		}
		bodies = append(bodies, b)
	}
	return bodies
}

// P8.2: each bound of a program, at it and one above it.
func TestMayBounds(t *testing.T) {
	wantMay(t, "variables", copiesOf(api.MaxVars-1), api.OK)
	wantMay(t, "a variable more", copiesOf(api.MaxVars), api.ErrBig)
	wantMay(t, "many more", copiesOf(5000), api.ErrBig)
	f := copiesOf(api.MaxVars - 1)
	f.Copies = append(f.Copies, f.Copies[0])
	wantMay(t, "as many copies as there may be", f, api.ErrShape)
	f.Copies = append(f.Copies, f.Copies[0])
	wantMay(t, "a copy more", f, api.ErrBig)
	wantMay(t, "calls", callsOf(api.MaxCalls), api.OK)
	wantMay(t, "a call more", callsOf(api.MaxCalls+1), api.ErrBig)
	wantMay(t, "bodies", api.Flat{Bodies: slices.Repeat([]api.Body{told(1, 2, 1)}, api.MaxNodes)}, api.OK)
	wantMay(t, "a body more", api.Flat{Bodies: slices.Repeat([]api.Body{told(1, 2, 1)}, api.MaxNodes+1)}, api.ErrBig)
	out := api.FlatOut{Type: api.TInt}
	f = copiesOf(0)
	for range api.MaxParams - 1 {
		f.Ins = append(f.Ins, api.FlatIn{Var: len(f.Vars), Period: 1})
		f.Vars = append(f.Vars, f.Vars[0])
	}
	f.Outs = slices.Repeat([]api.FlatOut{out}, api.MaxParams)
	wantMay(t, "inputs and outputs", f, api.OK)
	more := Copy(f)
	more.Outs = append(more.Outs, out)
	wantMay(t, "an output more", more, api.ErrBig)
	more = Copy(f)
	more.Ins = append(more.Ins, api.FlatIn{Var: len(f.Vars), Period: 1})
	more.Vars = append(more.Vars, f.Vars[0])
	wantMay(t, "an input more", more, api.ErrBig)
}

// P8.2: the size of all bodies together, and the depth of each expression.
func TestMayWork(t *testing.T) {
	for _, c := range []struct {
		size int
		want api.Errno
	}{{api.MaxWork - 1, api.OK}, {api.MaxWork, api.OK}, {api.MaxWork + 1, api.ErrBig}, {2 * api.MaxWork, api.ErrBig}} {
		for _, depth := range []int{api.MaxDepth, 40, 7} {
			wantMay(t, "bodies", api.Flat{Bodies: work(c.size, depth)}, c.want)
		}
		f := sample()
		own := 3 + 5 + 2 + 1
		f.Bodies = append(f.Bodies, work(c.size-own, 50)...)
		wantMay(t, "the sample's, and others", f, c.want)
	}
	wantMay(t, "one expression", api.Flat{Bodies: []api.Body{{Ins: 1, Vars: types(2), Outs: []int{1}, Eqs: []api.BodyEq{{Var: 1, E: deep(100000)}}}}}, api.ErrBig)
	for i := range 3 {
		for depth, want := range map[int]api.Errno{api.MaxDepth - 1: api.OK, api.MaxDepth: api.OK, api.MaxDepth + 1: api.ErrDeep, 3000: api.ErrDeep} {
			wantChanged(t, "a deep expression", want, func(f *api.Flat) { f.Bodies[0].Eqs[i].E = deep(depth) })
		}
	}
}

// P8.2: of several that apply ErrBig is told ahead of ErrDeep, and that ahead of ErrShape.
func TestMayFirst(t *testing.T) {
	shapes := []func(f *api.Flat){
		func(f *api.Flat) { f.Vars[0].Type = 0 },
		func(f *api.Flat) { f.Ins[0].Period = 0 },
		func(f *api.Flat) { f.Calls[0].Body = 9 },
		func(f *api.Flat) { f.Copies[0].From.Links[0].Kind = 0 },
		func(f *api.Flat) { f.Outs[0].Due = -1 },
		func(f *api.Flat) { f.Bodies[0].Ins = 0 },
		func(f *api.Flat) { f.Bodies[0].Eqs[0].E = api.Expr{} },
		func(f *api.Flat) { f.Bodies[0].Vars = types(1000) },
		func(f *api.Flat) { f.Copies = append(f.Copies, f.Copies[0]) },
	}
	deeps := []func(f *api.Flat){
		func(f *api.Flat) { f.Bodies[0].Eqs[2].E = deep(api.MaxDepth + 1) },
		func(f *api.Flat) { f.Bodies[1].Eqs[0].E = of(api.ExFby, deep(api.MaxDepth)) },
	}
	bigs := []func(f *api.Flat){
		func(f *api.Flat) { f.Vars = append(f.Vars, make([]api.FlatVar, api.MaxVars)...) },
		func(f *api.Flat) { f.Ins = make([]api.FlatIn, api.MaxParams+1) },
		func(f *api.Flat) { f.Outs = append(f.Outs, make([]api.FlatOut, api.MaxParams)...) },
		func(f *api.Flat) { f.Calls = append(f.Calls, make([]api.Call, api.MaxCalls)...) },
		func(f *api.Flat) { f.Copies = append(f.Copies, make([]api.Copy, api.MaxVars)...) },
		func(f *api.Flat) { f.Bodies = append(f.Bodies, make([]api.Body, api.MaxNodes)...) },
		func(f *api.Flat) {
			f.Bodies[1].Eqs[0].E = of(api.ExCall, slices.Repeat([]api.Expr{deep(api.MaxDepth)}, api.MaxWork/api.MaxDepth)...)
		},
	}
	for _, shape := range shapes {
		wantChanged(t, "a shape", api.ErrShape, shape)
		for _, deep := range deeps {
			wantChanged(t, "a depth and a shape", api.ErrDeep, func(f *api.Flat) { shape(f); deep(f) })
			for _, big := range bigs {
				wantChanged(t, "a bound, a depth and a shape", api.ErrBig, func(f *api.Flat) { shape(f); deep(f); big(f) })
			}
		}
		for _, big := range bigs {
			wantChanged(t, "a bound and a shape", api.ErrBig, func(f *api.Flat) { shape(f); big(f) })
		}
	}
}
