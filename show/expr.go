package show

import (
	"strconv"

	"carillon/api"
)

// two is what stands between two Args, and how strongly these must hold to stand there without parentheses.
type two struct {
	first  int
	sign   string
	second int
}

// twos has all kinds of two Args.
var twos = [api.ExCons + 1]two{
	api.ExFby:  {2, " fby ", 1},
	api.ExCons: {2, " :: ", 1},
	api.ExOr:   {2, " or ", 3},
	api.ExAnd:  {3, " and ", 4},
	api.ExEq:   {6, " = ", 6},
	api.ExNe:   {6, " <> ", 6},
	api.ExLt:   {6, " < ", 6},
	api.ExLe:   {6, " <= ", 6},
	api.ExGt:   {6, " > ", 6},
	api.ExGe:   {6, " >= ", 6},
	api.ExAdd:  {6, " + ", 7},
	api.ExSub:  {6, " - ", 7},
	api.ExMul:  {7, " * ", 8},
	api.ExDiv:  {7, " / ", 8},
	api.ExMod:  {7, " % ", 8},
}

// strength is how strongly a kind holds: one for each case that is weaker.
func strength(kind uint8) (weaker int) {
	switch kind {
	default:
		weaker++
		fallthrough
	case api.ExUp, api.ExDown, api.ExLate:
		weaker++
		fallthrough
	case api.ExNeg, api.ExTail:
		weaker++
		fallthrough
	case api.ExMul, api.ExDiv, api.ExMod:
		weaker++
		fallthrough
	case api.ExAdd, api.ExSub:
		weaker++
		fallthrough
	case api.ExEq, api.ExNe, api.ExLt, api.ExLe, api.ExGt, api.ExGe:
		weaker++
		fallthrough
	case api.ExNot:
		weaker++
		fallthrough
	case api.ExAnd:
		weaker++
		fallthrough
	case api.ExOr:
		weaker++
		fallthrough
	case api.ExFby, api.ExCons:
		weaker++
		fallthrough
	case api.ExIf:
	}
	return weaker
}

// putAt puts e, in parentheses if it holds less strongly than least.
func putAt(put putter, e api.Expr, least int) {
	if strength(e.Kind) >= least {
		putExpr(put, e)
		return
	}
	put("(")
	putExpr(put, e)
	put(")")
}

// putExpr calls itself for Args: tree.May has told that e is not too deep for that.
func putExpr(put putter, e api.Expr) {
	switch e.Kind {
	case api.ExVar:
		put(e.Name)
	case api.ExInt:
		put(digits(e.Int))
	case api.ExBool:
		put(strconv.FormatBool(e.Int == 1))
	case api.ExCall:
		putCall(put, e)
	case api.ExNeg, api.ExNot, api.ExTail:
		putAhead(put, e)
	case api.ExIf:
		put("if ")
		putExpr(put, e.Args[0])
		put(" then ")
		putExpr(put, e.Args[1])
		put(" else ")
		putExpr(put, e.Args[2])
	case api.ExUp, api.ExDown, api.ExLate:
		putBehind(put, e)
	default:
		t := twos[e.Kind]
		putAt(put, e.Args[0], t.first)
		put(t.sign)
		putAt(put, e.Args[1], t.second)
	}
}

func putCall(put putter, e api.Expr) {
	put(e.Name, "(")
	for i, arg := range e.Args {
		if i > 0 {
			put(", ")
		}
		putExpr(put, arg)
	}
	put(")")
}

// putAhead puts an expression whose sign stands ahead of its Arg.
func putAhead(put putter, e api.Expr) {
	arg := e.Args[0]
	switch e.Kind {
	case api.ExNot:
		put("not ")
		putAt(put, arg, 4)
		return
	case api.ExTail:
		put("tail ")
	case api.ExNeg:
		put("-")
		// No other kind that holds as strongly begins with -, and two of them would begin a remark.
		if arg.Kind == api.ExNeg {
			put(" ")
		}
	}
	putAt(put, arg, 8)
}

// putBehind puts an expression whose sign and number stand behind its Arg.
func putBehind(put putter, e api.Expr) {
	putAt(put, e.Args[0], 9)
	switch e.Kind {
	case api.ExUp:
		put(" *^ ", digits(e.Int))
	case api.ExDown:
		put(" /^ ", digits(e.Int))
	case api.ExLate:
		put(" ~> ", digits(e.Int), "/", digits(e.Den))
	}
}
