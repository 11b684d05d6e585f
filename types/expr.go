package types

import (
	"carillon/api"
	"carillon/wrong"
)

// What is asked of an Arg, or told of a whole, that is not of one type alone.
const (
	anyType  uint8 = api.TBool + 1 + iota
	lastType       // that of the Arg before it, of a whole that of its last Arg
	varType        // that of the variable
)

// asks is how many Args a kind has, what it asks of each, and what is made of them.
type asks struct {
	many int
	args [3]uint8
	made uint8
}

// ask says what one Arg more must be.
func (a *asks) ask(t uint8) {
	a.args[a.many] = t
	a.many++
}

// asksOf is what a kind asks; false, if no body has that kind.
func asksOf(kind uint8) (a asks, is bool) {
	switch kind {
	case api.ExVar:
		a.made = varType
	case api.ExAdd, api.ExSub, api.ExMul, api.ExDiv, api.ExMod:
		a.ask(api.TInt)
		fallthrough
	case api.ExNeg:
		a.ask(api.TInt)
		fallthrough
	case api.ExInt:
		a.made = api.TInt
	case api.ExAnd, api.ExOr:
		a.ask(api.TBool)
		fallthrough
	case api.ExNot:
		a.ask(api.TBool)
		fallthrough
	case api.ExBool:
		a.made = api.TBool
	case api.ExLt, api.ExLe, api.ExGt, api.ExGe:
		a.ask(api.TInt)
		a.ask(api.TInt)
		a.made = api.TBool
	case api.ExEq, api.ExNe:
		a.ask(anyType)
		a.ask(lastType)
		a.made = api.TBool
	case api.ExIf:
		a.ask(api.TBool)
		a.ask(anyType)
		a.ask(lastType)
		a.made = lastType
	default:
		return a, false
	}
	return a, true
}

// part is an expression some of whose Args have their types already.
type part struct {
	e    *api.Expr
	done int
	last uint8 // the type of the last one of these
}

// typeOf is the type of e; what is wrong with it ends the check. The parts that are begun stand in a list: a tree may be deeper than calls can stand in each other.
func typeOf(e api.Expr, vars []uint8) uint8 {
	begun := []part{begin(&e, vars)}
	for {
		top := &begun[len(begun)-1]
		if top.done < len(top.e.Args) {
			begun = append(begun, begin(&top.e.Args[top.done], vars))
			continue
		}
		t := top.made(vars)
		begun = begun[:len(begun)-1]
		if len(begun) == 0 {
			return t
		}
		begun[len(begun)-1].take(t)
	}
}

// begin is e before any of its Args, if it is right but for these.
func begin(e *api.Expr, vars []uint8) part {
	a, is := asksOf(e.Kind)
	switch {
	case e.Kind == api.ExVar && (e.Int < 0 || e.Int >= int64(len(vars))):
		panic(wrong.New("no variable of that number", e.At, api.ErrType))
	case !is:
		panic(wrong.New("a kind that no body has", e.At, api.ErrType))
	case len(e.Args) != a.many:
		panic(wrong.New("too few Args, or too many", e.At, api.ErrType))
	}
	return part{e: e}
}

// take gives the part the type of the next one of its Args.
func (p *part) take(t uint8) {
	a, _ := asksOf(p.e.Kind)
	asked := a.args[p.done]
	switch asked {
	case anyType:
		asked = t
	case lastType:
		asked = p.last
	}
	want(asked, t, p.e.Args[p.done].At)
	p.last = t
	p.done++
}

// made is the type of the part, all of whose Args are right.
func (p *part) made(vars []uint8) uint8 {
	a, _ := asksOf(p.e.Kind)
	switch a.made {
	case varType:
		return vars[p.e.Int]
	case lastType:
		return p.last
	}
	return a.made
}
