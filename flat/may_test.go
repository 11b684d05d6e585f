package flat

import (
	"math"
	"slices"
	"strconv"
	"testing"

	"carillon/api"
)

func of(kind uint8, args ...api.Expr) api.Expr { return api.Expr{Kind: kind, Args: args} }

func number(n int64) api.Expr { return api.Expr{Kind: api.ExInt, Int: n} }

func numbered(v int64) api.Expr { return api.Expr{Kind: api.ExVar, Int: v} }

// sample has something in every field.
func sample() api.Flat {
	return api.Flat{
		Vars: []api.FlatVar{
			{Name: "i", Type: api.TInt, At: 1}, {Name: "j", Type: api.TBool, At: 2}, {Name: "o", Type: api.TInt, At: 3},
			{Name: "v", Type: api.TBool, At: 4}, {Name: "w", Type: api.TInt, At: 5}, {Name: "f.2", Type: api.TInt, At: 6},
		},
		Ins: []api.FlatIn{{Var: 0, Period: 6, Start: 0}, {Var: 1, Period: 4, Start: 2}},
		Calls: []api.Call{
			{Body: 0, Args: []api.Chain{{Var: 0, At: 7, Links: []api.Link{{Kind: api.LinkUp, K: 2, At: 8}, {Kind: api.LinkTail, At: 9}}},
				{Var: 1, At: 10, Links: []api.Link{{Kind: api.LinkFby, Val: 1, Type: api.TBool, At: 11}}}}, Outs: []int{2, 3}, At: 12},
			{Body: 1, Args: []api.Chain{{Var: 4, At: 13, Links: []api.Link{{Kind: api.LinkLate, K: 1, Den: 2, At: 14}}}}, Outs: []int{5}, At: 15},
		},
		Copies: []api.Copy{{Var: 4, From: api.Chain{Var: 2, At: 16, Links: []api.Link{{Kind: api.LinkCons, Val: -7, Type: api.TInt, At: 17}, {Kind: api.LinkDown, K: 3, At: 18}}}}},
		Outs: []api.FlatOut{
			{Name: "o", Type: api.TInt, From: api.Chain{Var: 2, At: 19}, Due: 5, At: 20},
			{Name: "v", Type: api.TBool, From: api.Chain{Var: 3, At: 21, Links: []api.Link{{Kind: api.LinkTail, At: 22}}}, At: 23},
		},
		Bodies: []api.Body{
			{Name: "f", Ins: 2, Vars: []uint8{api.TInt, api.TBool, api.TInt, api.TBool, api.TInt}, Eqs: []api.BodyEq{
				{Var: 4, E: of(api.ExAdd, numbered(0), number(1))},
				{Var: 2, E: of(api.ExIf, numbered(1), numbered(4), of(api.ExNeg, numbered(0)))},
				{Var: 3, E: of(api.ExNot, api.Expr{Kind: api.ExBool, Int: 1, At: 24})},
			}, Outs: []int{2, 3}},
			{Name: "g", Ins: 1, Vars: []uint8{api.TInt, api.TInt}, Eqs: []api.BodyEq{{Var: 1, E: number(5)}}, Outs: []int{1}},
		},
	}
}

func wantMay(t *testing.T, what string, f api.Flat, want api.Errno) {
	t.Helper()
	if got := May(f); got != want {
		t.Errorf("%s: %v, not %v", what, got, want)
	}
}

// wantChanged asks the same of the sample after that change.
func wantChanged(t *testing.T, what string, want api.Errno, change func(f *api.Flat)) {
	t.Helper()
	f := sample()
	change(&f)
	wantMay(t, what, f, want)
}

// okOr is OK, or what is told else.
func okOr(ok bool, number api.Errno) api.Errno {
	if ok {
		return api.OK
	}
	return number
}

// P8.2: what may be, though it is little, or odd.
func TestMayOrdinary(t *testing.T) {
	wantMay(t, "nothing", api.Flat{}, api.OK)
	wantMay(t, "empty lists", api.Flat{Vars: []api.FlatVar{}, Ins: []api.FlatIn{}, Calls: []api.Call{}, Copies: []api.Copy{}, Outs: []api.FlatOut{}, Bodies: []api.Body{}}, api.OK)
	wantMay(t, "a sample", sample(), api.OK)
	wantChanged(t, "names of any kind", api.OK, func(f *api.Flat) { f.Vars[0].Name, f.Outs[0].Name, f.Bodies[0].Name = "", "f..", "if" })
	wantChanged(t, "names that are the same", api.OK, func(f *api.Flat) { f.Vars[0].Name, f.Outs[0].Name, f.Bodies[0].Name = "o", "v", "g" })
	wantChanged(t, "places of any kind", api.OK, func(f *api.Flat) {
		f.Vars[0].At, f.Calls[0].At, f.Outs[0].At, f.Calls[0].Args[0].At = -1, math.MinInt, math.MaxInt, -9
		f.Calls[0].Args[0].Links[0].At, f.Bodies[0].Eqs[0].E.At = -2, -3
	})
	wantChanged(t, "no outputs", api.OK, func(f *api.Flat) { f.Outs = nil })
	wantChanged(t, "a body that nobody calls", api.OK, func(f *api.Flat) { f.Bodies = append(f.Bodies, sample().Bodies[0]) })
	wantChanged(t, "an output of another type", api.OK, func(f *api.Flat) { f.Outs[0].Type = api.TBool })
	wantChanged(t, "an output twice", api.OK, func(f *api.Flat) { f.Outs[1] = f.Outs[0] })
	wantChanged(t, "one output of a body twice", api.OK, func(f *api.Flat) { f.Bodies[0].Outs = []int{3, 3} })
	wantChanged(t, "a body's input is its output", api.OK, func(f *api.Flat) { f.Bodies[0].Outs = []int{0, 1} })
}

// P8.2: types of variables, outputs and a body's variables.
func TestMayTypes(t *testing.T) {
	for _, kind := range []uint8{0, 1, 2, 3, 255} {
		want := okOr(kind == api.TInt || kind == api.TBool, api.ErrShape)
		for i := range sample().Vars {
			wantChanged(t, "a variable's type", want, func(f *api.Flat) { f.Vars[i].Type = kind })
		}
		for i := range sample().Outs {
			wantChanged(t, "an output's type", want, func(f *api.Flat) { f.Outs[i].Type = kind })
		}
		for i, b := range sample().Bodies {
			for k := range b.Vars {
				wantChanged(t, "a body's variable's type", want, func(f *api.Flat) { f.Bodies[i].Vars[k] = kind })
			}
		}
	}
}

// P8.2: numbers of what there is.
func TestMayNumbers(t *testing.T) {
	for _, n := range []int{math.MinInt, -1, 6, 7, math.MaxInt} {
		wantChanged(t, "an input's variable", api.ErrShape, func(f *api.Flat) { f.Ins[1].Var = n })
		wantChanged(t, "a call's output", api.ErrShape, func(f *api.Flat) { f.Calls[0].Outs[1] = n })
		wantChanged(t, "a copy's variable", api.ErrShape, func(f *api.Flat) { f.Copies[0].Var = n })
		wantChanged(t, "a copy's chain", api.ErrShape, func(f *api.Flat) { f.Copies[0].From.Var = n })
		wantChanged(t, "an Arg", api.ErrShape, func(f *api.Flat) { f.Calls[0].Args[1].Var = n })
		wantChanged(t, "an output's chain", api.ErrShape, func(f *api.Flat) { f.Outs[1].From.Var = n })
		// Nothing tells the sixth variable then.
		wantChanged(t, "a call's only output", api.ErrShape, func(f *api.Flat) { f.Calls[1].Outs[0] = n })
	}
	for v := range 6 {
		wantChanged(t, "a copy of any variable", api.OK, func(f *api.Flat) { f.Copies[0].From.Var = v })
		wantChanged(t, "an Arg of any variable", api.OK, func(f *api.Flat) { f.Calls[0].Args[0].Var = v })
		wantChanged(t, "an output of any variable", api.OK, func(f *api.Flat) { f.Outs[0].From.Var = v })
	}
	for _, n := range []int{math.MinInt, -1, 1, 2, 3, math.MaxInt} {
		wantChanged(t, "a call's body", api.ErrShape, func(f *api.Flat) { f.Calls[0].Body = n })
	}
	wantChanged(t, "no bodies", api.ErrShape, func(f *api.Flat) { f.Bodies = nil })
}

// P8.2: each variable is told just once, by whatever tells it.
func TestMayTold(t *testing.T) {
	wantChanged(t, "a variable more", api.ErrShape, func(f *api.Flat) { f.Vars = append(f.Vars, f.Vars[0]) })
	wantChanged(t, "a variable less", api.ErrShape, func(f *api.Flat) { f.Vars = f.Vars[:5] })
	for v := range 6 {
		another := okOr(v == 0, api.ErrShape)
		wantChanged(t, "an input of another variable", another, func(f *api.Flat) { f.Ins[0].Var = v })
		wantChanged(t, "an input more", api.ErrShape, func(f *api.Flat) { f.Ins = append(f.Ins, api.FlatIn{Var: v, Period: 1}) })
		wantChanged(t, "a copy more", api.ErrShape, func(f *api.Flat) { f.Copies = append(f.Copies, api.Copy{Var: v}) })
		wantChanged(t, "a call more", api.ErrShape, func(f *api.Flat) {
			f.Calls = append(f.Calls, api.Call{Body: 1, Args: make([]api.Chain, 1), Outs: []int{v}})
		})
		wantChanged(t, "a copy of another variable", okOr(v == 4, api.ErrShape), func(f *api.Flat) { f.Copies[0].Var = v })
		wantChanged(t, "a call of another variable", okOr(v == 2, api.ErrShape), func(f *api.Flat) { f.Calls[0].Outs[0] = v })
	}
	wantChanged(t, "an input less", api.ErrShape, func(f *api.Flat) { f.Ins = f.Ins[:1] })
	wantChanged(t, "a copy less", api.ErrShape, func(f *api.Flat) { f.Copies = nil })
	wantChanged(t, "a call less", api.ErrShape, func(f *api.Flat) { f.Calls = f.Calls[:1] })
	wantChanged(t, "another order", api.OK, func(f *api.Flat) {
		f.Ins[0].Var, f.Ins[1].Var, f.Calls[0].Outs, f.Copies[0].Var, f.Calls[1].Outs[0] = 5, 4, []int{3, 1}, 0, 2
	})
	wantChanged(t, "one told by a copy, another twice", api.ErrShape, func(f *api.Flat) { f.Calls[0].Outs = []int{2, 2} })
}

// P8.2: periods, starts and deadlines.
func TestMayTimes(t *testing.T) {
	for _, n := range []int64{math.MinInt64, -2, -1, 0, 1, 2, math.MaxInt64} {
		wantChanged(t, "a period", okOr(n >= 1, api.ErrShape), func(f *api.Flat) { f.Ins[1].Period = n })
		wantChanged(t, "a start", okOr(n >= 0, api.ErrShape), func(f *api.Flat) { f.Ins[1].Start = n })
		wantChanged(t, "a deadline", okOr(n >= 0, api.ErrShape), func(f *api.Flat) { f.Outs[1].Due = n })
	}
}

// P8.2: as many Args and Outs as the body has.
func TestMayCalls(t *testing.T) {
	for n := range 5 {
		wantChanged(t, strconv.Itoa(n)+" Args", okOr(n == 2, api.ErrShape), func(f *api.Flat) { f.Calls[0].Args = make([]api.Chain, n) })
		wantChanged(t, strconv.Itoa(n)+" outputs", okOr(n == 2, api.ErrShape), func(f *api.Flat) {
			f.Calls[0].Outs = []int{2, 3, 6, 7, 8}[:n]
			if n > 2 {
				f.Vars = append(f.Vars, slices.Repeat(f.Vars[:1], n-2)...)
			}
			if n < 2 {
				f.Copies = append(f.Copies, []api.Copy{{Var: 2}, {Var: 3}}[n:]...)
			}
		})
	}
	wantChanged(t, "a body without inputs and outputs", api.ErrShape, func(f *api.Flat) {
		f.Bodies = append(f.Bodies, api.Body{Name: "k"})
		f.Calls = append(f.Calls, api.Call{Body: 2})
	})
	wantChanged(t, "another body", api.ErrShape, func(f *api.Flat) { f.Calls[0].Body = 1 })
	wantChanged(t, "a body like it", api.OK, func(f *api.Flat) {
		f.Bodies = append(f.Bodies, sample().Bodies[0])
		f.Calls[0].Body = 2
	})
}

// linkIs is what the chapter says of a link.
func linkIs(l api.Link) bool {
	rest := l
	rest.Kind, rest.At = 0, 0
	switch l.Kind {
	case api.LinkTail:
		return rest == api.Link{}
	case api.LinkUp, api.LinkDown:
		rest.K = 0
		return rest == api.Link{} && l.K > 0
	case api.LinkLate:
		rest.K, rest.Den = 0, 0
		return rest == api.Link{} && l.K >= 0 && l.Den > 0
	case api.LinkFby, api.LinkCons:
		rest.Val, rest.Type = 0, 0
		if l.Type == api.TBool {
			return rest == api.Link{} && (l.Val == 0 || l.Val == 1)
		}
		return rest == api.Link{} && l.Type == api.TInt
	}
	return false
}

// P8.2: links of every kind with each field at its edges, in each chain there is.
func TestMayLinks(t *testing.T) {
	edges := []int64{math.MinInt64, -1, 0, 1, 2, math.MaxInt64}
	may := 0
	for kind := range uint8(9) {
		for _, k := range edges {
			for _, den := range edges {
				for _, val := range edges {
					for typ := range uint8(4) {
						l := api.Link{Kind: kind, K: k, Den: den, Val: val, Type: typ, At: int(-k)}
						is := linkIs(l)
						f := sample()
						f.Copies[0].From.Links[1] = l
						if got := May(f); got != okOr(is, api.ErrShape) {
							t.Errorf("%+v: %v", l, got)
						}
						if is {
							may++
						}
					}
				}
			}
		}
	}
	if may != 2*(6+2)+1+2*3+4*3 {
		t.Errorf("%d links may be", may)
	}
	for _, l := range []api.Link{{}, {Kind: 7}, {Kind: 255}, {Kind: api.LinkUp}, {Kind: api.LinkTail, Type: api.TInt}} {
		wantChanged(t, "a link of an Arg", api.ErrShape, func(f *api.Flat) { f.Calls[0].Args[0].Links[0] = l })
		wantChanged(t, "the last link of an Arg", api.ErrShape, func(f *api.Flat) { f.Calls[0].Args[0].Links[1] = l })
		wantChanged(t, "a link of the last Arg", api.ErrShape, func(f *api.Flat) { f.Calls[0].Args[1].Links[0] = l })
		wantChanged(t, "a link of the last call", api.ErrShape, func(f *api.Flat) { f.Calls[1].Args[0].Links[0] = l })
		wantChanged(t, "a link of a copy", api.ErrShape, func(f *api.Flat) { f.Copies[0].From.Links[0] = l })
		wantChanged(t, "a link of an output", api.ErrShape, func(f *api.Flat) { f.Outs[0].From.Links = []api.Link{l} })
	}
	for _, c := range []struct {
		many int
		want api.Errno
	}{{api.MaxDepth - 1, api.OK}, {api.MaxDepth, api.OK}, {api.MaxDepth + 1, api.ErrShape}, {1000, api.ErrShape}} {
		links := slices.Repeat([]api.Link{{Kind: api.LinkTail}}, c.many)
		wantChanged(t, "links of an Arg", c.want, func(f *api.Flat) { f.Calls[0].Args[1].Links = links })
		wantChanged(t, "links of a copy", c.want, func(f *api.Flat) { f.Copies[0].From.Links = links })
		wantChanged(t, "links of an output", c.want, func(f *api.Flat) { f.Outs[0].From.Links = links })
	}
}
