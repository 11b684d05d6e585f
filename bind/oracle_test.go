package bind

import (
	"slices"

	"carillon/api"
	"carillon/tree"
)

// flaw is one of all that is wrong with a program; its key tells where it stands in the chapter's order.
type flaw struct {
	key   []int
	fault api.Fault
}

// audit finds all flaws of a program, in no order.
type audit struct {
	p     api.Program
	main  string
	found []flaw
}

func (a *audit) when(is bool, e api.Errno, at int, key ...int) {
	if is {
		a.found = append(a.found, flaw{slices.Clone(key), api.Fault{At: at, Err: e}})
	}
}

// firstFlaw is the fault whose key is least; of OK, if there is none.
func firstFlaw(p api.Program, main string) api.Fault {
	if e := tree.May(p); e != api.OK {
		return api.Fault{Err: e}
	}
	a := &audit{p: p, main: main}
	a.program()
	if len(a.found) == 0 {
		return api.Fault{}
	}
	return slices.MinFunc(a.found, func(x, y flaw) int { return slices.Compare(x.key, y.key) }).fault
}

// nodeOf is the number of the node of a name, or below 0.
func nodeOf(p api.Program, name string) int {
	return slices.IndexFunc(p.Nodes, func(n api.Node) bool { return n.Name == name })
}

func isAmong(list []api.Param, name string) bool {
	return slices.ContainsFunc(list, func(v api.Param) bool { return v.Name == name })
}

func (a *audit) program() {
	isMain := func(n api.Node) bool { return n.Flow && n.Name == a.main }
	a.when(!slices.ContainsFunc(a.p.Nodes, isMain), api.ErrMain, 0, 3)
	reach := reaching(a.p)
	for i, n := range a.p.Nodes {
		a.when(nodeOf(a.p, n.Name) < i, api.ErrTwice, n.At, 2, i)
		a.node(n, 4, i)
		a.when(reach[i][i], api.ErrCycle, n.At, 5, i)
	}
}

func (a *audit) node(n api.Node, key ...int) {
	key = slices.Clip(key)
	has := slices.Concat(n.Ins, n.Outs, n.Vars)
	for i, v := range has {
		a.when(isAmong(has[:i], v.Name), api.ErrTwice, v.At, append(key, 0, i)...)
	}
	a.when(len(n.Ins) == 0 || len(n.Outs) == 0, api.ErrArity, n.At, append(key, 1)...)
	main := n.Name == a.main
	for i, v := range slices.Concat(n.Ins, n.Outs) {
		in := i < len(n.Ins)
		a.when(main && in && !v.Rate, api.ErrRate, v.At, append(key, 2, i)...)
		a.when(n.Flow && !main && in && v.Rate, api.ErrRate, v.At, append(key, 2, i)...)
		a.when(n.Flow && !main && !in && v.Due > 0, api.ErrRate, v.At, append(key, 2, i)...)
	}
	var ahead []string
	for i, q := range n.Eqs {
		for j, name := range q.Names {
			a.when(!isAmong(has, name), api.ErrUnknown, q.At, append(key, 3, i, 0, j, 0)...)
			a.when(isAmong(n.Ins, name), api.ErrInput, q.At, append(key, 3, i, 0, j, 1)...)
			a.when(slices.Contains(ahead, name), api.ErrTwice, q.At, append(key, 3, i, 0, j, 2)...)
			ahead = append(ahead, name)
		}
		a.when(q.E.Kind != api.ExCall && len(q.Names) > 1, api.ErrArity, q.E.At, append(key, 3, i, 1, 0)...)
		a.expr(n, q.E, len(q.Names), append(key, 3, i, 1))
	}
	for i, v := range has[len(n.Ins):] {
		a.when(!slices.Contains(ahead, v.Name), api.ErrUntold, v.At, append(key, 4, i)...)
	}
}

// expr finds the flaws of e, whose key has what is less than 10 behind it, and those of its Args, which have 10 and more behind.
func (a *audit) expr(n api.Node, e api.Expr, values int, key []int) {
	key = slices.Clip(key)
	links := []uint8{api.ExFby, api.ExCons, api.ExTail, api.ExUp, api.ExDown, api.ExLate}
	link, variable, call := slices.Contains(links, e.Kind), e.Kind == api.ExVar, e.Kind == api.ExCall
	has := slices.Concat(n.Ins, n.Outs, n.Vars)
	a.when(variable && !isAmong(has, e.Name), api.ErrUnknown, e.At, append(key, 1)...)
	if call {
		to := nodeOf(a.p, e.Name)
		a.when(to < 0, api.ErrUnknown, e.At, append(key, 2)...)
		if to >= 0 {
			callee := a.p.Nodes[to]
			a.when(callee.Flow && !n.Flow, api.ErrPlace, e.At, append(key, 3)...)
			a.when(len(callee.Ins) != len(e.Args), api.ErrArity, e.At, append(key, 4)...)
			a.when(len(callee.Outs) != values, api.ErrArity, e.At, append(key, 5)...)
		}
	}
	a.when(!n.Flow && link, api.ErrPlace, e.At, append(key, 6)...)
	a.when(n.Flow && !link && !variable && !call, api.ErrPlace, e.At, append(key, 6)...)
	for i, arg := range e.Args {
		if i == 0 && (e.Kind == api.ExFby || e.Kind == api.ExCons) {
			literal := arg.Kind == api.ExInt || arg.Kind == api.ExBool || arg.Kind == api.ExNeg && arg.Args[0].Kind == api.ExInt
			a.when(!literal, api.ErrPlace, arg.At, append(key, 10)...)
			continue
		}
		a.expr(n, arg, 1, append(key, 10+i))
	}
}

// called are the numbers of the nodes that e calls.
func called(p api.Program, e api.Expr) (list []int) {
	if to := nodeOf(p, e.Name); e.Kind == api.ExCall && to >= 0 {
		list = append(list, to)
	}
	for _, arg := range e.Args {
		list = append(list, called(p, arg)...)
	}
	return list
}

// calling says who calls whom.
func calling(p api.Program) [][]bool {
	calls := make([][]bool, len(p.Nodes))
	for i, n := range p.Nodes {
		calls[i] = make([]bool, len(p.Nodes))
		for _, q := range n.Eqs {
			for _, to := range called(p, q.E) {
				calls[i][to] = true
			}
		}
	}
	return calls
}

// reaching says who reaches whom, by way of more and more nodes.
func reaching(p api.Program) [][]bool {
	reach := calling(p)
	for by := range reach {
		for from := range reach {
			for to := range reach {
				reach[from][to] = reach[from][to] || reach[from][by] && reach[by][to]
			}
		}
	}
	return reach
}

// ordered is the order that the chapter asks for, or the fault.
func ordered(p api.Program) ([]int, api.Fault) {
	if e := tree.May(p); e != api.OK {
		return nil, api.Fault{Err: e}
	}
	reach, calls := reaching(p), calling(p)
	var left, order []int
	for i, n := range p.Nodes {
		if reach[i][i] {
			return nil, api.Fault{At: n.At, Err: api.ErrCycle}
		}
		left = append(left, i)
	}
	for len(left) > 0 {
		k := slices.IndexFunc(left, func(i int) bool {
			return !slices.ContainsFunc(left, func(j int) bool { return calls[i][j] })
		})
		order = append(order, left[k])
		left = slices.Delete(left, k, k+1)
	}
	return order, api.Fault{}
}
