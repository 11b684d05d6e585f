package show

import (
	"math/rand"
	"testing"

	"carillon/api"
	"carillon/tree"
)

// listsOf has all lists of so many trees that have that size together.
func listsOf(bySize [][]api.Expr, size, count int) (lists [][]api.Expr) {
	if count == 0 {
		if size == 0 {
			return [][]api.Expr{nil}
		}
		return nil
	}
	for first := 1; first <= size-count+1; first++ {
		rests := listsOf(bySize, size-first, count-1)
		for _, e := range bySize[first] {
			for _, rest := range rests {
				lists = append(lists, append([]api.Expr{e}, rest...))
			}
		}
	}
	return lists
}

// allOf has all trees of that size, by all patterns.
func allOf(bySize [][]api.Expr, size int) (list []api.Expr) {
	for _, p := range patterns() {
		for _, args := range listsOf(bySize, size-1, p.args()) {
			e := p.e
			e.Args = args
			list = append(list, e)
		}
	}
	return list
}

// P5.3: of all small trees no two have one text.
func TestSmallTreesDiffer(t *testing.T) {
	bySize := [][]api.Expr{nil, {variable("x"), number(3)}}
	for size := 2; size <= 5; size++ {
		bySize = append(bySize, allOf(bySize, size))
	}
	seen := map[string]api.Expr{}
	for _, list := range bySize {
		for _, e := range list {
			text, no := Expr(e)
			if no != api.OK {
				t.Fatal(no)
			}
			if other, is := seen[text]; is {
				t.Fatalf("%q is the text of %v and of %v", text, other, e)
			}
			seen[text] = e
		}
	}
	if len(seen) < 30000 {
		t.Errorf("but %d trees", len(seen))
	}
}

// misplaced changes every place in e.
func misplaced(r *rand.Rand, e *api.Expr) {
	e.At = r.Intn(1000) - 500
	for i := range e.Args {
		misplaced(r, &e.Args[i])
	}
}

// P5.3: trees that are the same but for their places have one text; an empty list is none.
func TestPlacesCountForNothing(t *testing.T) {
	r := rand.New(rand.NewSource(53))
	p := sample()
	for i := range p.Nodes {
		n := &p.Nodes[i]
		n.At = r.Int()
		for _, list := range [][]api.Param{n.Ins, n.Outs, n.Vars} {
			for j := range list {
				list[j].At = -r.Int()
			}
		}
		for j := range n.Eqs {
			n.Eqs[j].At = r.Int()
			misplaced(r, &n.Eqs[j].E)
			one, _ := Expr(n.Eqs[j].E)
			wantExpr(t, sample().Nodes[i].Eqs[j].E, one)
		}
	}
	p.Nodes[1].Vars = []api.Param{}
	if !tree.SameProgram(p, sample()) {
		t.Fatal("not the same")
	}
	wantProgram(t, p, sampleText)
}

// changes are all that make one part of the sample another one that may be.
func changes() []func(f, m *api.Node) {
	return []func(f, m *api.Node){
		func(f, _ *api.Node) { f.Flow = true },
		func(f, _ *api.Node) { f.Name = "main" },
		func(_, m *api.Node) { m.Name = "mainn" },
		func(f, _ *api.Node) { f.Ins = f.Ins[:1] },
		func(f, _ *api.Node) { f.Ins[0].Name = "xx" },
		func(f, _ *api.Node) { f.Ins[0].Type = api.TBool },
		func(f, _ *api.Node) { f.Ins[0], f.Ins[1] = f.Ins[1], f.Ins[0] },
		func(_, m *api.Node) { m.Ins[0].Period = 1 },
		func(_, m *api.Node) { m.Ins[0].Start = 1 },
		func(_, m *api.Node) { m.Ins[0] = param("i") },
		func(_, m *api.Node) { m.Ins[0], m.Ins[1] = rated(m.Ins[1], 10, 0), param("i") },
		func(_, m *api.Node) { m.Ins[1] = rated(m.Ins[1], 10, 0) },
		func(_, m *api.Node) { m.Outs[0].Due = 0 },
		func(_, m *api.Node) { m.Outs[0].Due = 1 },
		func(_, m *api.Node) { m.Outs[1].Due = 8 },
		func(_, m *api.Node) { m.Outs = m.Outs[:1] },
		func(_, m *api.Node) { m.Vars = []api.Param{param("v")} },
		func(f, _ *api.Node) { f.Vars = nil },
		func(f, _ *api.Node) { f.Vars = f.Vars[:1] },
		func(f, _ *api.Node) { f.Outs, f.Vars = f.Vars, f.Outs },
		func(f, _ *api.Node) { f.Ins, f.Outs = f.Outs, f.Ins },
		func(f, _ *api.Node) { f.Eqs = nil },
		func(f, _ *api.Node) { f.Eqs = f.Eqs[:1] },
		func(f, _ *api.Node) { f.Eqs[0], f.Eqs[1] = f.Eqs[1], f.Eqs[0] },
		func(f, _ *api.Node) { f.Eqs[1].Names = []string{"v"} },
		func(f, _ *api.Node) { f.Eqs[1].Names = []string{"w", "v"} },
		func(f, m *api.Node) { f.Eqs, m.Eqs = f.Eqs[:1], append(m.Eqs, f.Eqs[1]) },
		func(_, m *api.Node) { m.Eqs[0].E.Name = "ff" },
		func(_, m *api.Node) { m.Eqs[0].E.Args = m.Eqs[0].E.Args[:1] },
		func(_, m *api.Node) { m.Eqs[0].E.Args[0].Kind = api.ExDown },
		func(_, m *api.Node) { m.Eqs[0].E.Args[0].Int = 22 },
		func(_, m *api.Node) { m.Eqs[0].E.Args[0].Args[0].Kind = api.ExCons },
		func(_, m *api.Node) { m.Eqs[0].E.Args[0].Args[0].Args[0] = truth(0) },
		func(_, m *api.Node) { m.Eqs[0].E.Args[1].Int = 11 },
		func(_, m *api.Node) { m.Eqs[0].E.Args[1].Den = 4 },
		func(_, m *api.Node) { m.Eqs[0].E.Args[1].Args[0].Int = 0 },
		func(f, m *api.Node) { *f, *m = *m, *f },
	}
}

// P5.3: programs that are not the same have two texts.
func TestProgramsDiffer(t *testing.T) {
	seen := map[string]int{sampleText: -1}
	for i, change := range changes() {
		p := sample()
		change(&p.Nodes[0], &p.Nodes[1])
		text, no := Program(p)
		if other, is := seen[text]; is || no != api.OK {
			t.Errorf("change %d: %v, the text of %d", i, no, other)
		}
		seen[text] = i
	}
	for i, nodes := range [][]api.Node{nil, sample().Nodes[:1], sample().Nodes[1:], append(sample().Nodes, api.Node{Name: "n"})} {
		text, no := Program(program(nodes...))
		if other, is := seen[text]; is || no != api.OK {
			t.Errorf("nodes %d: %v, the text of %d", i, no, other)
		}
		seen[text] = 100 + i
	}
}
