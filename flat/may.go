package flat

import (
	"carillon/api"
	"carillon/tree"
)

// May is OK, or the first error of f.
func May(f api.Flat) api.Errno {
	if !countsMay(f) {
		return api.ErrBig
	}
	for _, b := range f.Bodies {
		for _, q := range b.Eqs {
			if tree.Depth(q.E) > api.MaxDepth {
				return api.ErrDeep
			}
		}
	}
	if !shapeMay(f) {
		return api.ErrShape
	}
	return api.OK
}

// countsMay is whether no list of f is too long, and its bodies are not too great.
func countsMay(f api.Flat) bool {
	if len(f.Vars) > api.MaxVars || len(f.Copies) > api.MaxVars || len(f.Calls) > api.MaxCalls {
		return false
	}
	if len(f.Ins) > api.MaxParams || len(f.Outs) > api.MaxParams || len(f.Bodies) > api.MaxNodes {
		return false
	}
	size := 0
	for _, b := range f.Bodies {
		for _, q := range b.Eqs {
			size += tree.Size(q.E)
		}
	}
	return size <= api.MaxWork
}

// shapeMay is whether f, in which nothing is too great, may be.
func shapeMay(f api.Flat) bool {
	for _, v := range f.Vars {
		if !isType(v.Type) {
			return false
		}
	}
	for _, b := range f.Bodies {
		if !bodyMay(b) {
			return false
		}
	}
	return insMay(f) && callsMay(f) && copiesMay(f) && outsMay(f) && toldOnce(f)
}

func isType(t uint8) bool { return t == api.TInt || t == api.TBool }

// isThere is whether a list of so many has that number.
func isThere(number, many int) bool { return number >= 0 && number < many }

func insMay(f api.Flat) bool {
	for _, in := range f.Ins {
		if !isThere(in.Var, len(f.Vars)) || in.Period < 1 || in.Start < 0 {
			return false
		}
	}
	return true
}

func callsMay(f api.Flat) bool {
	for _, c := range f.Calls {
		if !isThere(c.Body, len(f.Bodies)) {
			return false
		}
		b := f.Bodies[c.Body]
		if len(c.Args) != b.Ins || len(c.Outs) != len(b.Outs) {
			return false
		}
		for _, arg := range c.Args {
			if !chainMay(arg, f) {
				return false
			}
		}
		for _, v := range c.Outs {
			if !isThere(v, len(f.Vars)) {
				return false
			}
		}
	}
	return true
}

func copiesMay(f api.Flat) bool {
	for _, c := range f.Copies {
		if !isThere(c.Var, len(f.Vars)) || !chainMay(c.From, f) {
			return false
		}
	}
	return true
}

func outsMay(f api.Flat) bool {
	for _, out := range f.Outs {
		if !isType(out.Type) || out.Due < 0 || !chainMay(out.From, f) {
			return false
		}
	}
	return true
}

// toldOnce is whether each variable of f is told just once. All that tells one has to be there.
func toldOnce(f api.Flat) bool {
	times := make([]int, len(f.Vars))
	for _, in := range f.Ins {
		times[in.Var]++
	}
	for _, c := range f.Calls {
		for _, v := range c.Outs {
			times[v]++
		}
	}
	for _, c := range f.Copies {
		times[c.Var]++
	}
	for _, n := range times {
		if n != 1 {
			return false
		}
	}
	return true
}

func chainMay(c api.Chain, f api.Flat) bool {
	if !isThere(c.Var, len(f.Vars)) || len(c.Links) > api.MaxDepth {
		return false
	}
	for _, l := range c.Links {
		if !linkMay(l) {
			return false
		}
	}
	return true
}

func linkMay(l api.Link) bool {
	switch l.Kind {
	case api.LinkFby, api.LinkCons:
		isBool := l.Val == 0 || l.Val == 1
		return isType(l.Type) && (l.Type != api.TBool || isBool) && l.K == 0 && l.Den == 0
	case api.LinkTail:
		return l.K == 0 && l.Den == 0 && l.Val == 0 && l.Type == 0
	case api.LinkUp, api.LinkDown:
		return l.K >= 1 && l.Den == 0 && l.Val == 0 && l.Type == 0
	case api.LinkLate:
		return l.K >= 0 && l.Den >= 1 && l.Val == 0 && l.Type == 0
	}
	return false
}

// bodyMay is whether b may be; its expressions are neither too many nor too deep.
func bodyMay(b api.Body) bool {
	vars, outs := len(b.Vars), len(b.Outs)
	if vars > api.MaxVars || b.Ins < 1 || b.Ins > min(vars, api.MaxParams) || outs < 1 || outs > api.MaxParams {
		return false
	}
	for _, t := range b.Vars {
		if !isType(t) {
			return false
		}
	}
	for _, v := range b.Outs {
		if !isThere(v, vars) {
			return false
		}
	}
	return len(b.Eqs) == vars-b.Ins && eqsMay(b)
}

// eqsMay is whether each of b's equations may be, and tells a variable that nothing ahead tells.
func eqsMay(b api.Body) bool {
	told := make([]bool, len(b.Vars))
	for v := range b.Ins {
		told[v] = true
	}
	for _, q := range b.Eqs {
		if !isThere(q.Var, len(b.Vars)) || told[q.Var] || !exprMay(q.E, told) {
			return false
		}
		told[q.Var] = true
	}
	return true
}

// exprMay is whether e may be where those variables are told. Layer 4 says it, but for the variables.
func exprMay(e api.Expr, told []bool) bool {
	named, is := withNames(e, told)
	q := api.Eq{Names: []string{"v"}, E: named}
	return is && tree.May(api.Program{Nodes: []api.Node{{Name: "n", Eqs: []api.Eq{q}}}}) == api.OK
}

// withNames is e with a name in the place of each variable's number; false, if it has a variable that is not told, or a kind that no body has.
func withNames(e api.Expr, told []bool) (api.Expr, bool) {
	switch {
	case e.Kind == api.ExVar:
		if e.Name != "" || e.Int < 0 || e.Int >= int64(len(told)) || !told[e.Int] {
			return api.Expr{}, false
		}
		e.Name, e.Int = "v", 0
	case e.Kind == api.ExCall || e.Kind > api.ExIf:
		return api.Expr{}, false
	}
	var args []api.Expr
	for _, arg := range e.Args {
		named, is := withNames(arg, told)
		if !is {
			return api.Expr{}, false
		}
		args = append(args, named)
	}
	e.Args = args
	return e, true
}
