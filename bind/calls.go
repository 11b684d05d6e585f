package bind

import (
	"slices"

	"carillon/api"
	"carillon/tree"
)

// callees has for each node the numbers of those that it calls.
func (b book) callees() [][]int {
	calls := make([][]int, len(b.nodes))
	for i, n := range b.nodes {
		for _, q := range n.Eqs {
			for _, name := range tree.Calls(q.E) {
				if to, is := b.first[name]; is {
					calls[i] = append(calls[i], to)
				}
			}
		}
	}
	return calls
}

// wantNoCycle checks that no node reaches itself.
func (b book) wantNoCycle(calls [][]int) {
	for i, n := range b.nodes {
		if reached(calls, i)[i] {
			stop(n.At, api.ErrCycle)
		}
	}
}

// reached says of each node whether from reaches it.
func reached(calls [][]int, from int) []bool {
	is := make([]bool, len(calls))
	var goOn func(at int)
	goOn = func(at int) {
		for _, to := range calls[at] {
			if !is[to] {
				is[to] = true
				goOn(to)
			}
		}
	}
	goOn(from)
	return is
}

// sorted has the numbers of all nodes: again and again the least of those left that call none of those left. There is one, as none reaches itself.
func sorted(calls [][]int) []int {
	var order []int
	done := make([]bool, len(calls))
	isLeft := func(i int) bool { return !done[i] }
	for range calls {
		next := 0
		for done[next] || slices.ContainsFunc(calls[next], isLeft) {
			next++
		}
		done[next] = true
		order = append(order, next)
	}
	return order
}
