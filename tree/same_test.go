package tree

import (
	"math/rand"
	"reflect"
	"slices"
	"strconv"
	"strings"
	"testing"

	"carillon/api"
)

// sample is a program that has some of everything; each call makes it anew.
func sample() api.Program {
	late := api.Expr{Kind: api.ExLate, At: 7, Int: 1, Den: 2, Args: []api.Expr{variable("i")}}
	up := api.Expr{Kind: api.ExUp, At: 8, Int: 3, Args: []api.Expr{late}}
	return api.Program{Nodes: []api.Node{
		{
			Name: "f", At: 1,
			Ins:  []api.Param{{Name: "a", Type: api.TInt, At: 2}, {Name: "b", Type: api.TBool, At: 3}},
			Outs: []api.Param{{Name: "c", Type: api.TInt, At: 4}},
			Vars: []api.Param{{Name: "d", Type: api.TInt, At: 5}, {Name: "e", Type: api.TBool, At: 6}},
			Eqs: []api.Eq{
				{Names: []string{"c"}, At: 7, E: of(api.ExIf, variable("b"), of(api.ExAdd, variable("a"), number(1)), of(api.ExNeg, number(2)))},
				{Names: []string{"d", "e"}, At: 8, E: call("g", variable("a"), truth(1), call("h", variable("b")))},
			},
		},
		{
			Flow: true, Name: "main", At: 9,
			Ins:  []api.Param{{Name: "i", Type: api.TInt, At: 1, Rate: true, Period: 10, Start: 5}, {Name: "j", Type: api.TBool, Rate: true, Period: 20}},
			Outs: []api.Param{{Name: "o", Type: api.TInt, At: 3, Due: 4}, {Name: "p", Type: api.TBool}},
			Eqs: []api.Eq{
				{Names: []string{"o"}, At: 1, E: call("f", up, of(api.ExFby, number(0), of(api.ExTail, variable("j"))))},
				{Names: []string{"p"}, E: of(api.ExCons, truth(0), variable("j"))},
			},
		},
		{Name: "empty"},
	}}
}

// each visits all that stands in v: fields, elements, and what these have; path tells where.
func each(v reflect.Value, path string, visit func(path string, v reflect.Value)) {
	visit(path, v)
	switch v.Kind() {
	case reflect.Struct:
		for i := range v.NumField() {
			each(v.Field(i), path+"."+v.Type().Field(i).Name, visit)
		}
	case reflect.Slice:
		for i := range v.Len() {
			each(v.Index(i), path+"."+strconv.Itoa(i), visit)
		}
	}
}

// paths has the path of all that stands in p.
func paths(p api.Program) []string {
	var list []string
	each(reflect.ValueOf(&p).Elem(), "", func(path string, _ reflect.Value) { list = append(list, path) })
	return list
}

// part is what stands in p at a path.
func part(p *api.Program, path string) reflect.Value {
	var found reflect.Value
	each(reflect.ValueOf(p).Elem(), "", func(at string, v reflect.Value) {
		if at == path {
			found = v
		}
	})
	return found
}

// change makes another value of a bool, a number or a text; false, if v is none.
func change(v reflect.Value) bool {
	switch v.Kind() {
	case reflect.Bool:
		v.SetBool(!v.Bool())
	case reflect.Int, reflect.Int64:
		v.SetInt(v.Int() + 1)
	case reflect.Uint8:
		v.SetUint(v.Uint() + 1)
	case reflect.String:
		v.SetString(v.String() + "x")
	default:
		return false
	}
	return true
}

func wantSame(t *testing.T, what string, a, b api.Program, want bool) {
	t.Helper()
	if SameProgram(a, b) != want || SameProgram(b, a) != want {
		t.Errorf("%s: %v, not %v", what, !want, want)
	}
	var first, second []api.Expr
	for _, x := range []struct {
		p    api.Program
		list *[]api.Expr
	}{{a, &first}, {b, &second}} {
		for _, n := range x.p.Nodes {
			for _, q := range n.Eqs {
				*x.list = append(*x.list, q.E)
			}
		}
	}
	for i := range min(len(first), len(second)) {
		want := reflect.DeepEqual(withoutPlaces(first[i]), withoutPlaces(second[i]))
		if Same(first[i], second[i]) != want || Same(second[i], first[i]) != want {
			t.Errorf("%s: %v and %v: %v, not %v", what, first[i], second[i], !want, want)
		}
	}
}

// withoutPlaces is e with no At, and without empty lists.
func withoutPlaces(e api.Expr) api.Expr {
	e.At = 0
	var args []api.Expr
	for _, a := range e.Args {
		args = append(args, withoutPlaces(a))
	}
	e.Args = args
	return e
}

// P4.3: programs that differ in one field alone.
func TestSameFields(t *testing.T) {
	wantSame(t, "the same", sample(), sample(), true)
	places, others := 0, 0
	for _, path := range paths(sample()) {
		p := sample()
		if !change(part(&p, path)) {
			continue
		}
		isPlace := strings.HasSuffix(path, ".At")
		wantSame(t, path, p, sample(), isPlace)
		if isPlace {
			places++
		} else {
			others++
		}
	}
	if places < 30 || others < 100 {
		t.Errorf("%d places and %d other fields", places, others)
	}
}

// P4.3: lists that have one fewer, one more, another order; nil and empty ones.
func TestSameLists(t *testing.T) {
	lists := 0
	for _, path := range paths(sample()) {
		p := sample()
		v := part(&p, path)
		if v.Kind() != reflect.Slice {
			continue
		}
		lists++
		count := v.Len()
		v.Set(reflect.Append(v, reflect.Zero(v.Type().Elem())))
		wantSame(t, path+", one more", p, sample(), false)
		v.Set(v.Slice(0, count))
		wantSame(t, path+", as before", p, sample(), true)
		if count == 0 {
			v.Set(reflect.MakeSlice(v.Type(), 0, 3))
			wantSame(t, path+", empty", p, sample(), true)
			v.Set(reflect.Zero(v.Type()))
			wantSame(t, path+", nil", p, sample(), true)
			continue
		}
		if count > 1 {
			reflect.Swapper(v.Interface())(0, 1)
			wantSame(t, path+", another order", p, sample(), false)
			reflect.Swapper(v.Interface())(0, 1)
		}
		v.Set(v.Slice(0, count-1))
		wantSame(t, path+", one fewer", p, sample(), false)
		v.Set(reflect.Zero(v.Type()))
		wantSame(t, path+", none", p, sample(), false)
	}
	if lists < 40 {
		t.Errorf("%d lists", lists)
	}
}

// P4.3
func TestSameEdges(t *testing.T) {
	none, empty := api.Program{}, api.Program{Nodes: []api.Node{}}
	wantSame(t, "none", none, none, true)
	wantSame(t, "none and an empty list", none, empty, true)
	wantSame(t, "none and an empty node", none, api.Program{Nodes: []api.Node{{}}}, false)
	wantSame(t, "empty nodes", api.Program{Nodes: []api.Node{{}}}, api.Program{Nodes: []api.Node{{Ins: []api.Param{}, Outs: []api.Param{}, Vars: []api.Param{}, Eqs: []api.Eq{}}}}, true)
	wantSame(t, "names that are nil and empty", withNode(api.Node{Eqs: []api.Eq{{}}}), withNode(api.Node{Eqs: []api.Eq{{Names: []string{}, E: api.Expr{Args: []api.Expr{}}}}}), true)
	x, y := variable("x"), variable("y")
	for _, c := range []struct {
		a, b api.Expr
		want bool
	}{
		{api.Expr{}, api.Expr{}, true},
		{api.Expr{Kind: 99, Name: "-", Int: -1, Den: -2, At: 5}, api.Expr{Kind: 99, Name: "-", Int: -1, Den: -2, Args: []api.Expr{}}, true},
		{x, x, true},
		{x, y, false},
		{x, variable("X"), false},
		{x, of(api.ExVar), false},
		{number(1), truth(1), false},
		{of(api.ExSub, x, y), of(api.ExSub, x, y), true},
		{of(api.ExSub, x, y), of(api.ExSub, y, x), false},
		{of(api.ExAdd, x, y), of(api.ExAdd, y, x), false},
		{of(api.ExNeg, x), x, false},
		{of(api.ExNeg, x), of(api.ExNeg, of(api.ExNeg, x)), false},
		// The same parts, one behind the other, in other Args.
		{call("f", call("g", x), y), call("f", call("g", x, y)), false},
		{call("f", call("g", x, y)), call("f", call("g"), x, y), false},
		{of(api.ExAdd, of(api.ExAdd, x, y), x), of(api.ExAdd, x, of(api.ExAdd, y, x)), false},
		{of(9, of(9, of(9)), of(9)), of(9, of(9), of(9, of(9))), false},
	} {
		if Same(c.a, c.b) != c.want || Same(c.b, c.a) != c.want {
			t.Errorf("%v and %v: %v", c.a, c.b, !c.want)
		}
	}
}

// P4.3 and P4.5: whatever is changed in a copy, the tree stays.
func TestCopyChanged(t *testing.T) {
	p := sample()
	for _, path := range paths(sample()) {
		c := CopyProgram(p)
		if !reflect.DeepEqual(c, sample()) {
			t.Fatalf("%s: the copy is %v", path, c)
		}
		v := part(&c, path)
		if !change(v) && v.Kind() == reflect.Slice {
			v.Set(reflect.Append(v, reflect.Zero(v.Type().Elem())))
			for i := range v.Len() {
				v.Index(i).SetZero()
			}
		}
		if !reflect.DeepEqual(p, sample()) {
			t.Fatalf("%s: the tree is %v", path, p)
		}
	}
	for i, n := range p.Nodes {
		for k, q := range n.Eqs {
			c := Copy(q.E)
			if !reflect.DeepEqual(c, sample().Nodes[i].Eqs[k].E) {
				t.Errorf("the copy is %v", c)
			}
			spoilAll(&c)
			if !reflect.DeepEqual(p, sample()) {
				t.Fatalf("the tree is %v", p)
			}
		}
	}
}

func spoilAll(e *api.Expr) {
	for i := range e.Args {
		spoilAll(&e.Args[i])
	}
	clear(e.Args)
	e.Args = append(e.Args, number(99))
}

// P4.3 and R5: the other way round, what is changed in the tree does not change the copy.
func TestCopyStays(t *testing.T) {
	for _, path := range paths(sample()) {
		p := sample()
		c := CopyProgram(p)
		change(part(&p, path))
		if !reflect.DeepEqual(c, sample()) {
			t.Fatalf("%s: the copy is %v", path, c)
		}
	}
}

// R5: where a tree has one list twice, its copy has two.
func TestCopyShared(t *testing.T) {
	args := []api.Expr{variable("x"), variable("y")}
	e := of(api.ExAdd, of(api.ExAdd, args...), of(api.ExAdd, args...))
	c := Copy(e)
	c.Args[0].Args[0].Name = "z"
	if !reflect.DeepEqual(c.Args[1], e.Args[1]) {
		t.Errorf("%v", c)
	}
	params := []api.Param{param("x")}
	names := []string{"x"}
	eqs := []api.Eq{{Names: names, E: e}, {Names: names, E: e}}
	p := api.Program{Nodes: []api.Node{{Ins: params, Outs: params, Vars: params, Eqs: eqs}, {Ins: params, Eqs: eqs}}}
	lists := map[uintptr]string{}
	all := CopyProgram(p)
	each(reflect.ValueOf(&all).Elem(), "", func(path string, v reflect.Value) {
		if v.Kind() != reflect.Slice || v.Len() == 0 {
			return
		}
		if other, twice := lists[v.Pointer()]; twice {
			t.Errorf("%s and %s are one list", path, other)
		}
		lists[v.Pointer()] = path
	})
	spare := append(make([]api.Expr, 0, 8), variable("x"))
	c = Copy(api.Expr{Args: spare})
	_ = append(c.Args, number(1))
	if spare[:2][1].Kind != 0 {
		t.Error("what stands behind the tree's list is changed")
	}
}

// P4.3: trees that may not be, and empty lists, are copied too.
func TestCopyEdges(t *testing.T) {
	for _, e := range []api.Expr{{}, {Args: []api.Expr{}}, {Kind: 255, At: -1, Name: "\x00", Int: -1, Den: -1, Args: []api.Expr{{}, {Kind: 77}}}, of(api.ExVar, chain(100))} {
		if c := Copy(e); !reflect.DeepEqual(withoutPlaces(c), withoutPlaces(e)) || c.At != e.At {
			t.Errorf("%v is the copy of %v", c, e)
		}
	}
	for _, p := range []api.Program{{}, {Nodes: []api.Node{}}, {Nodes: []api.Node{{}}}, {Nodes: []api.Node{{Ins: []api.Param{}, Eqs: []api.Eq{{Names: []string{}}}}}}} {
		if c := CopyProgram(p); !SameProgram(c, p) || len(c.Nodes) != len(p.Nodes) {
			t.Errorf("%v is the copy of %v", c, p)
		}
	}
}

// P4.5
func TestCopyAlike(t *testing.T) {
	r := rand.New(rand.NewSource(6))
	for range 2000 {
		e := shape(r, 1+r.Intn(6))
		c := Copy(e)
		if !reflect.DeepEqual(c, e) || !Same(c, e) || Size(c) != Size(e) || Depth(c) != Depth(e) || !slices.Equal(Calls(c), Calls(e)) {
			t.Fatalf("%v is the copy of %v", c, e)
		}
		other := shape(r, 1+r.Intn(3))
		want := reflect.DeepEqual(withoutPlaces(e), withoutPlaces(other))
		if Same(e, other) != want || Same(other, e) != want {
			t.Fatalf("%v and %v: %v", e, other, !want)
		}
		if want && (Size(e) != Size(other) || Depth(e) != Depth(other) || !slices.Equal(Calls(e), Calls(other))) {
			t.Fatalf("%v and %v are the same, and not as great", e, other)
		}
		spoilAll(&c)
		if Size(e) != plainSize(e) || Same(c, e) {
			t.Fatalf("%v and %v", c, e)
		}
	}
}
