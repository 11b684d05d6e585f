package tree

import (
	"strings"

	"carillon/api"
	"carillon/lists"
)

// Same is whether a and b are the same, but for their places.
func Same(a, b api.Expr) bool {
	left := []pair{{[]api.Expr{a}, []api.Expr{b}}}
	same := func(x, y api.Expr) bool {
		if len(x.Args) > 0 || len(y.Args) > 0 {
			left = append(left, pair{x.Args, y.Args})
		}
		return x.Kind == y.Kind && x.Name == y.Name && x.Int == y.Int && x.Den == y.Den
	}
	// As in walk, what is left stands in a list.
	for len(left) > 0 {
		last := left[len(left)-1]
		left = left[:len(left)-1]
		if !alike(last.a, last.b, same) {
			return false
		}
	}
	return true
}

// pair is the Args of two expressions that stand in the same place of two trees.
type pair struct{ a, b []api.Expr }

// SameProgram is whether a and b are the same, but for their places.
func SameProgram(a, b api.Program) bool {
	return alike(a.Nodes, b.Nodes, sameNode)
}

func sameNode(a, b api.Node) bool {
	return a.Flow == b.Flow && a.Name == b.Name &&
		alike(a.Ins, b.Ins, sameParam) && alike(a.Outs, b.Outs, sameParam) && alike(a.Vars, b.Vars, sameParam) &&
		alike(a.Eqs, b.Eqs, sameEq)
}

func sameParam(a, b api.Param) bool {
	a.At = b.At
	return a == b
}

func sameEq(a, b api.Eq) bool {
	return alike(a.Names, b.Names, sameName) && Same(a.E, b.E)
}

func sameName(a, b string) bool { return a == b }

// alike is whether a and b have as many elements, and each one of a is the same as that of b.
func alike[T any](a, b []T, same func(x, y T) bool) bool {
	if len(a) != len(b) {
		return false
	}
	for i := range a {
		if !same(a[i], b[i]) {
			return false
		}
	}
	return true
}

// Copy is e again, with lists of its own.
func Copy(e api.Expr) api.Expr {
	root := []api.Expr{copyPart(e)}
	walk(root, func(part *api.Expr, _ int) {
		part.Args = lists.Each(part.Args, copyPart)
	})
	return root[0]
}

// CopyProgram is p again, with lists of its own.
func CopyProgram(p api.Program) api.Program {
	return api.Program{Nodes: lists.Each(p.Nodes, copyNode)}
}

func copyNode(n api.Node) api.Node {
	return api.Node{
		Flow: n.Flow,
		Name: strings.Clone(n.Name),
		At:   n.At,
		Ins:  lists.Each(n.Ins, copyParam),
		Outs: lists.Each(n.Outs, copyParam),
		Vars: lists.Each(n.Vars, copyParam),
		Eqs:  lists.Each(n.Eqs, copyEq),
	}
}

func copyParam(p api.Param) api.Param {
	p.Name = strings.Clone(p.Name)
	return p
}

func copyEq(q api.Eq) api.Eq {
	return api.Eq{Names: lists.Each(q.Names, strings.Clone), At: q.At, E: Copy(q.E)}
}

// copyPart is e, which still has the Args that it had.
func copyPart(e api.Expr) api.Expr {
	e.Name = strings.Clone(e.Name)
	return e
}
