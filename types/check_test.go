package types

import (
	"math"
	"math/rand"
	"reflect"
	"slices"
	"strconv"
	"testing"

	"carillon/api"
	"carillon/flat"
)

// choice is an expression of that type at a place: if a variable then two others, of few; the truth stands at the place behind.
func choice(t uint8, at int) api.Expr {
	return of(api.ExIf, at, leaf(api.TBool, at+1), leaf(t, at+2), leaf(t, at+3))
}

// body has few's variables as inputs, and then one equation for each of those types, at first, first + 10 and so on; all these are outputs.
func body(first int, outs ...uint8) api.Body {
	b := api.Body{Ins: len(few()), Vars: append(few(), outs...)}
	for i, t := range outs {
		b.Eqs = append(b.Eqs, api.BodyEq{Var: b.Ins + i, E: choice(t, first+10*i)})
		b.Outs = append(b.Outs, b.Ins+i)
	}
	return b
}

// chain is a flow of that type at a place: of one of the first two variables, with many links whose values have that type, at the places behind.
func chain(t uint8, at int) api.Chain {
	return api.Chain{Var: int(t) - 1, At: at, Links: []api.Link{
		{Kind: api.LinkTail, At: at + 1}, {Kind: api.LinkFby, Val: 1, Type: t, At: at + 2}, {Kind: api.LinkUp, K: 2, At: at + 3},
		{Kind: api.LinkCons, Type: t, At: at + 4}, {Kind: api.LinkFby, Type: t, At: at + 5}, {Kind: api.LinkLate, Den: 1, At: at + 6},
	}}
}

// sample is right, has everything more than twice, and each place is another one.
func sample() api.Flat {
	f := api.Flat{
		Vars: []api.FlatVar{{Name: "i", Type: api.TInt}, {Name: "j", Type: api.TBool}},
		Ins:  []api.FlatIn{{Var: 0, Period: 1}, {Var: 1, Period: 1}},
		Bodies: []api.Body{
			body(1000, api.TInt, api.TBool, api.TInt), body(2000, api.TBool, api.TInt, api.TBool, api.TBool), body(3000, api.TInt),
		},
	}
	newVar := func(t uint8) int {
		f.Vars = append(f.Vars, api.FlatVar{Type: t})
		return len(f.Vars) - 1
	}
	for i, t := range []uint8{api.TBool, api.TInt, api.TBool} {
		f.Copies = append(f.Copies, api.Copy{Var: newVar(t), From: chain(t, 5000+10*i)})
	}
	for i, of := range []int{1, 0, 2, 1} {
		c := api.Call{Body: of, At: 6000 + 100*i}
		for k, t := range few() {
			c.Args = append(c.Args, chain(t, c.At+10*k+10))
		}
		for _, out := range f.Bodies[of].Outs {
			c.Outs = append(c.Outs, newVar(f.Bodies[of].Vars[out]))
		}
		f.Calls = append(f.Calls, c)
	}
	for i, t := range []uint8{api.TInt, api.TBool, api.TBool} {
		f.Outs = append(f.Outs, api.FlatOut{Type: t, From: chain(t, 7000+10*i), At: 8000 + i})
	}
	return f
}

// fault is one thing that can be made wrong in the sample, and at which place that is told.
type fault struct {
	what string
	at   int
	make func(f *api.Flat)
}

// faultsOf has all that can be wrong in a chain of the sample, in the order in which it is told.
func faultsOf(what string, at int, get func(f *api.Flat) *api.Chain) []fault {
	var all []fault
	for _, link := range []int{1, 3, 4} {
		all = append(all, fault{what + ", link " + strconv.Itoa(link), at + 1 + link, func(f *api.Flat) {
			l := &get(f).Links[link]
			l.Type = other(l.Type)
		}})
	}
	return append(all, fault{what, at, func(f *api.Flat) {
		c := get(f)
		c.Var = 1 - c.Var
		for _, link := range []int{1, 3, 4} {
			c.Links[link].Type = other(c.Links[link].Type)
		}
	}})
}

// faults has all of them, in the order in which they are told.
func faults() []fault {
	var all []fault
	f := sample()
	for i, b := range f.Bodies {
		for k, q := range b.Eqs {
			name := "body " + strconv.Itoa(i) + ", equation " + strconv.Itoa(k)
			get := func(f *api.Flat) *api.Expr { return &f.Bodies[i].Eqs[k].E }
			all = append(all,
				fault{name + ", within", q.E.At + 1, func(f *api.Flat) { get(f).Args[0].Int = 1 - get(f).Args[0].Int }},
				fault{name, q.E.At, func(f *api.Flat) { get(f).Args[1].Int, get(f).Args[2].Int = 1-get(f).Args[1].Int, 1-get(f).Args[2].Int }})
		}
	}
	for i, c := range f.Copies {
		all = append(all, faultsOf("copy "+strconv.Itoa(i), c.From.At, func(f *api.Flat) *api.Chain { return &f.Copies[i].From })...)
	}
	for i, c := range f.Calls {
		name := "call " + strconv.Itoa(i)
		for k, arg := range c.Args {
			all = append(all, faultsOf(name+", Arg "+strconv.Itoa(k), arg.At, func(f *api.Flat) *api.Chain { return &f.Calls[i].Args[k] })...)
		}
		for k, v := range c.Outs {
			all = append(all, fault{name + ", out " + strconv.Itoa(k), c.At, func(f *api.Flat) { f.Vars[v].Type = other(f.Vars[v].Type) }})
		}
	}
	for i, out := range f.Outs {
		all = append(all, faultsOf("output "+strconv.Itoa(i), out.From.At, func(f *api.Flat) *api.Chain { return &f.Outs[i].From })...)
	}
	return all
}

// wantCheck asks for nil, if the number is OK, else for that fault; f stays as it was.
func wantCheck(t *testing.T, what string, f api.Flat, at int, number api.Errno) {
	t.Helper()
	before := flat.Copy(f)
	err := Check(f)
	if number == api.OK && err != nil {
		t.Errorf("%s: %v", what, err)
	}
	if number != api.OK {
		wantFault(t, what, err, api.Fault{At: at, Err: number})
	}
	if !reflect.DeepEqual(f, before) {
		t.Errorf("%s: the program was changed", what)
	}
}

// P9.2: each thing is wrong alone.
func TestCheckAlone(t *testing.T) {
	wantCheck(t, "nothing", api.Flat{}, 0, api.OK)
	wantCheck(t, "empty lists", api.Flat{Vars: []api.FlatVar{}, Ins: []api.FlatIn{}, Calls: []api.Call{}, Copies: []api.Copy{}, Outs: []api.FlatOut{}, Bodies: []api.Body{}}, 0, api.OK)
	wantCheck(t, "the sample", sample(), 0, api.OK)
	all := faults()
	for _, one := range all {
		f := sample()
		one.make(&f)
		wantCheck(t, one.what, f, one.at, api.ErrType)
		one.make(&f)
		wantCheck(t, one.what+", and mended", f, 0, api.OK)
	}
	if len(all) != 2*8+4*3+4*4*3+12+4*3 {
		t.Errorf("%d faults", len(all))
	}
}

// P9.2: of two that are wrong the first is told.
func TestCheckTwo(t *testing.T) {
	all := faults()
	for i, first := range all {
		for _, second := range all[i+1:] {
			f := sample()
			second.make(&f)
			first.make(&f)
			wantCheck(t, first.what+" and "+second.what, f, first.at, api.ErrType)
		}
	}
}

// P9.2: of many that are wrong the first is told.
func TestCheckMany(t *testing.T) {
	all := faults()
	for seed := range int64(2000) {
		chance := rand.New(rand.NewSource(seed))
		f, first := sample(), -1
		for i, one := range all {
			if chance.Intn(20) < int(seed%20) {
				one.make(&f)
				if first < 0 {
					first = i
				}
			}
		}
		if first < 0 {
			wantCheck(t, "none", f, 0, api.OK)
		} else {
			wantCheck(t, all[first].what, f, all[first].at, api.ErrType)
		}
	}
}

// P9.2: what flat.May tells stands at 0, ahead of all types.
func TestCheckMay(t *testing.T) {
	deep := nested(api.ExNot, api.MaxDepth, leaf(api.TBool, 5))
	for _, c := range []struct {
		what   string
		number api.Errno
		make   func(f *api.Flat)
	}{
		{"too many variables", api.ErrBig, func(f *api.Flat) { f.Vars = append(f.Vars, make([]api.FlatVar, api.MaxVars)...) }},
		{"too much work", api.ErrBig, func(f *api.Flat) {
			f.Bodies[0].Eqs[0].E.Args = slices.Repeat([]api.Expr{leaf(api.TInt, 5)}, api.MaxWork)
		}},
		{"too many outputs", api.ErrBig, func(f *api.Flat) { f.Outs = slices.Repeat(f.Outs[:1], api.MaxParams+1) }},
		{"too deep", api.ErrDeep, func(f *api.Flat) { f.Bodies[2].Eqs[0].E = deep }},
		{"too deep, and no shape", api.ErrDeep, func(f *api.Flat) { f.Bodies[2].Eqs[0].E, f.Vars[0].Type = deep, 0 }},
		{"too deep, and too much", api.ErrBig, func(f *api.Flat) {
			f.Bodies[2].Eqs[0].E, f.Vars = deep, append(f.Vars, make([]api.FlatVar, api.MaxVars)...)
		}},
		{"a variable that nobody tells", api.ErrShape, func(f *api.Flat) { f.Ins = f.Ins[1:] }},
		{"a variable of no type", api.ErrShape, func(f *api.Flat) { f.Vars[0].Type = api.TBool + 1 }},
		{"a variable of a body that is not there", api.ErrShape, func(f *api.Flat) { f.Bodies[1].Eqs[0].E.Args[0].Int = 7 }},
		{"a variable below all", api.ErrShape, func(f *api.Flat) { f.Bodies[1].Eqs[0].E.Args[0].Int = -1 }},
		{"a kind that no body has", api.ErrShape, func(f *api.Flat) { f.Bodies[1].Eqs[0].E = of(api.ExTail, 5, leaf(api.TInt, 6)) }},
		{"too few Args", api.ErrShape, func(f *api.Flat) { f.Bodies[1].Eqs[0].E.Args = f.Bodies[1].Eqs[0].E.Args[:2] }},
		{"a body of no type", api.ErrShape, func(f *api.Flat) { f.Bodies[1].Vars[0] = 0 }},
		{"a link of no type", api.ErrShape, func(f *api.Flat) { f.Copies[0].From.Links[1].Type = 0 }},
		{"a tail of a type", api.ErrShape, func(f *api.Flat) { f.Copies[0].From.Links[0].Type = api.TBool }},
		{"a truth of 2", api.ErrShape, func(f *api.Flat) { l := &f.Copies[0].From.Links[1]; l.Val, l.Type = 2, api.TBool }},
		{"a call of no body", api.ErrShape, func(f *api.Flat) { f.Calls[3].Body = 3 }},
		{"a call of too few", api.ErrShape, func(f *api.Flat) { f.Calls[3].Args = f.Calls[3].Args[1:] }},
		{"an output of no type", api.ErrShape, func(f *api.Flat) { f.Outs[2].Type = 0 }},
		{"an output of no variable", api.ErrShape, func(f *api.Flat) { f.Outs[2].From.Var = -1 }},
	} {
		f := sample()
		c.make(&f)
		wantCheck(t, c.what, f, 0, c.number)
		for _, one := range faults() {
			f := sample()
			one.make(&f)
			c.make(&f)
			wantCheck(t, c.what+" and "+one.what, f, 0, c.number)
		}
	}
}

// P9.2: the types of what stands on the other side.
func TestCheckOtherSide(t *testing.T) {
	for _, c := range []struct {
		what string
		at   int
		make func(f *api.Flat)
	}{
		{"a body's first variable that is told", 1000, func(f *api.Flat) { f.Bodies[0].Vars[3] = api.TBool }},
		{"a body's last variable", 2030, func(f *api.Flat) { f.Bodies[1].Vars[6] = api.TInt }},
		{"a body's input that is a truth", 1001, func(f *api.Flat) { f.Bodies[0].Vars[1] = api.TInt }},
		{"a body's input that no equation uses", 6130, func(f *api.Flat) { f.Bodies[0].Vars[2] = api.TBool }},
		{"a body that is called twice, in the first", 6030, func(f *api.Flat) { f.Bodies[1].Vars[2] = api.TBool }},
		{"a copy's variable", 5010, func(f *api.Flat) { f.Vars[3].Type = api.TBool }},
		{"the last copy's variable", 5020, func(f *api.Flat) { f.Vars[4].Type = api.TInt }},
		{"an input, of whose flow a value is", 5012, func(f *api.Flat) { f.Vars[0].Type = api.TBool }},
		{"an output's type", 7010, func(f *api.Flat) { f.Outs[1].Type = api.TInt }},
		{"the last output's type", 7020, func(f *api.Flat) { f.Outs[2].Type = api.TInt }},
		{"another output of the body", 6100, func(f *api.Flat) { f.Bodies[0].Outs[0] = 4 }},
		{"an output that is an input of the body", 6200, func(f *api.Flat) { f.Bodies[2].Outs[0] = 1 }},
		{"two outputs of a call the other way round", 6000, func(f *api.Flat) { o := f.Calls[0].Outs; o[0], o[1] = o[1], o[0] }},
		{"two outputs of the last call the other way round", 6300, func(f *api.Flat) { o := f.Calls[3].Outs; o[0], o[1] = o[1], o[0] }},
		{"two Args the other way round", 6120, func(f *api.Flat) { a := f.Calls[1].Args; a[0], a[1] = a[1], a[0] }},
		{"a call of another body", 6300, func(f *api.Flat) {
			f.Bodies = append(f.Bodies, body(4000, api.TBool, api.TInt, api.TBool, api.TInt))
			f.Calls[3].Body = 3
		}},
	} {
		f := sample()
		c.make(&f)
		wantCheck(t, c.what, f, c.at, api.ErrType)
	}
	for what, change := range map[string]func(f *api.Flat){
		"outputs of one type the other way round": func(f *api.Flat) { o := f.Calls[0].Outs; o[0], o[2] = o[2], o[0] },
		"an output twice":                         func(f *api.Flat) { f.Bodies[2].Outs[0] = 0 },
		"a body that is not called":               func(f *api.Flat) { f.Bodies = append(f.Bodies, body(4000, api.TBool)) },
		"no links":                                func(f *api.Flat) { f.Outs[0].From.Links, f.Copies[1].From.Links = nil, []api.Link{} },
		"bodies the other way round": func(f *api.Flat) {
			f.Bodies[0], f.Bodies[2] = f.Bodies[2], f.Bodies[0]
			f.Calls[1].Body, f.Calls[2].Body = 2, 0
		},
	} {
		f := sample()
		change(&f)
		wantCheck(t, what, f, 0, api.OK)
	}
}

// P9.2: a body that is not called is checked, too.
func TestCheckUncalled(t *testing.T) {
	f := sample()
	f.Bodies = append(f.Bodies, body(4000, api.TBool, api.TInt))
	f.Bodies[3].Eqs[1].E.Args[2].Int = 1
	wantCheck(t, "a body that is not called", f, 4013, api.ErrType)
}

// P9.2: places are told as they stand, whatever they are.
func TestCheckPlaces(t *testing.T) {
	for _, at := range []int{-1, 0, math.MaxInt, math.MinInt} {
		f := sample()
		f.Outs[0].Type, f.Outs[0].From.At = api.TBool, at
		wantCheck(t, "an output", f, at, api.ErrType)
		f.Calls[0].Outs[0], f.Calls[0].Outs[1], f.Calls[0].At = f.Calls[0].Outs[1], f.Calls[0].Outs[0], at
		wantCheck(t, "a call", f, at, api.ErrType)
		f.Copies[0].From.Links[3].Type, f.Copies[0].From.Links[3].At = api.TInt, at
		wantCheck(t, "a link", f, at, api.ErrType)
		f.Bodies[0].Vars[4], f.Bodies[0].Eqs[1].E.At = api.TInt, at
		wantCheck(t, "an equation", f, at, api.ErrType)
	}
}

// P9.3: a program that is right stays so, whatever is put in the place of a part of the same type.
func TestCheckPut(t *testing.T) {
	for seed := range int64(400) {
		m := &dice{chance: rand.New(rand.NewSource(seed)), vars: few()}
		f := sample()
		for _, b := range f.Bodies {
			for k := range b.Eqs {
				all := parts(&b.Eqs[k].E)
				part := all[m.chance.Intn(len(all))]
				is, _ := Expr(*part, b.Vars)
				*part = m.expr(is, 4)
			}
		}
		wantCheck(t, "other parts", f, 0, api.OK)
	}
}
