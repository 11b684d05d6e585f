package tree

import (
	"carillon/api"
	"carillon/lex"
)

// What argCount has for a kind that has no one number of Args.
const (
	noKind  = -1
	several = -2 // 1 to MaxArgs
)

// argCount is how many Args each kind has.
var argCount = [api.ExLate + 1]int{
	0:          noKind,
	api.ExVar:  0,
	api.ExInt:  0,
	api.ExBool: 0,
	api.ExCall: several,
	api.ExNeg:  1,
	api.ExNot:  1,
	api.ExAdd:  2,
	api.ExSub:  2,
	api.ExMul:  2,
	api.ExDiv:  2,
	api.ExMod:  2,
	api.ExEq:   2,
	api.ExNe:   2,
	api.ExLt:   2,
	api.ExLe:   2,
	api.ExGt:   2,
	api.ExGe:   2,
	api.ExAnd:  2,
	api.ExOr:   2,
	api.ExIf:   3,
	api.ExFby:  2,
	api.ExCons: 2,
	api.ExTail: 1,
	api.ExUp:   1,
	api.ExDown: 1,
	api.ExLate: 1,
}

// May is OK, or the first error of p.
func May(p api.Program) api.Errno {
	if !listsMay(p) {
		return api.ErrBig
	}
	for _, n := range p.Nodes {
		if !nodeMay(n) {
			return api.ErrShape
		}
	}
	size, depth := measureAll(p)
	if depth > api.MaxDepth {
		return api.ErrDeep
	}
	if size > api.MaxSize {
		return api.ErrBig
	}
	return api.OK
}

// listsMay is whether no list of p or of its nodes is too long.
func listsMay(p api.Program) bool {
	if len(p.Nodes) > api.MaxNodes {
		return false
	}
	for _, n := range p.Nodes {
		params := max(len(n.Ins), len(n.Outs), len(n.Vars))
		if params > api.MaxParams || len(n.Eqs) > api.MaxEqs {
			return false
		}
	}
	return true
}

// measureAll is the size of all equations' expressions together, and the depth of the deepest.
func measureAll(p api.Program) (size, depth int) {
	for _, n := range p.Nodes {
		for _, q := range n.Eqs {
			more, deep := measure(q.E)
			size += more
			depth = max(depth, deep)
		}
	}
	return size, depth
}

func nodeMay(n api.Node) bool {
	if !lex.Name(n.Name) {
		return false
	}
	if !paramsMay(n.Ins, n.Flow, false) || !paramsMay(n.Outs, false, n.Flow) || !paramsMay(n.Vars, false, false) {
		return false
	}
	for _, q := range n.Eqs {
		if !eqMay(q) {
			return false
		}
	}
	return true
}

// paramsMay is whether all of list may be, where a rate, or a due, belongs or does not.
func paramsMay(list []api.Param, rate, due bool) bool {
	for _, p := range list {
		if !paramMay(p) || p.Rate && !rate || p.Due > 0 && !due {
			return false
		}
	}
	return true
}

func paramMay(p api.Param) bool {
	if !lex.Name(p.Name) || p.Type != api.TInt && p.Type != api.TBool || p.Due < 0 {
		return false
	}
	if p.Rate {
		return p.Period >= 1 && p.Start >= 0
	}
	return p.Period == 0 && p.Start == 0
}

func eqMay(q api.Eq) bool {
	if len(q.Names) < 1 || len(q.Names) > api.MaxArgs {
		return false
	}
	for _, name := range q.Names {
		if !lex.Name(name) {
			return false
		}
	}
	return exprMay(q.E)
}

func exprMay(e api.Expr) bool {
	may := true
	walk([]api.Expr{e}, func(part *api.Expr, _ int) {
		may = may && partMay(*part)
	})
	return may
}

// partMay is whether e has what its kind asks, whatever its Args are in themselves.
func partMay(e api.Expr) bool {
	return argsMay(e) && numbersMay(e) && nameMay(e)
}

func argsMay(e api.Expr) bool {
	if int(e.Kind) >= len(argCount) {
		return false
	}
	count := argCount[e.Kind]
	if count == several {
		return len(e.Args) >= 1 && len(e.Args) <= api.MaxArgs
	}
	return len(e.Args) == count
}

func numbersMay(e api.Expr) bool {
	switch e.Kind {
	case api.ExInt:
		return e.Int >= 0 && e.Den == 0
	case api.ExBool:
		return e.Int >= 0 && e.Int <= 1 && e.Den == 0
	case api.ExUp, api.ExDown:
		return e.Int >= 1 && e.Den == 0
	case api.ExLate:
		return e.Int >= 0 && e.Den >= 1
	}
	return e.Int == 0 && e.Den == 0
}

func nameMay(e api.Expr) bool {
	if e.Kind == api.ExVar || e.Kind == api.ExCall {
		return lex.Name(e.Name)
	}
	return e.Name == ""
}
