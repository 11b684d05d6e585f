package parse

import (
	"errors"
	"math"
	"strconv"
	"strings"
	"testing"
	"unsafe"

	"carillon/api"
	"carillon/lex"
	"carillon/tree"
)

// heads are how kinds are told that have nothing but Args.
var heads = [api.ExLate + 1]string{
	api.ExNeg: "neg", api.ExNot: "not", api.ExTail: "tail", api.ExIf: "if",
	api.ExAdd: "+", api.ExSub: "-", api.ExMul: "*", api.ExDiv: "/", api.ExMod: "%",
	api.ExEq: "=", api.ExNe: "<>", api.ExLt: "<", api.ExLe: "<=", api.ExGt: ">", api.ExGe: ">=",
	api.ExAnd: "and", api.ExOr: "or", api.ExFby: "fby", api.ExCons: "::",
}

func head(e api.Expr) string {
	switch n := strconv.FormatInt(e.Int, 10); e.Kind {
	case api.ExVar:
		return e.Name
	case api.ExInt:
		return n
	case api.ExBool:
		return [2]string{"false", "true"}[e.Int]
	case api.ExCall:
		return "call-" + e.Name
	case api.ExUp:
		return "*^" + n
	case api.ExDown:
		return "/^" + n
	case api.ExLate:
		return "~>" + n + "/" + strconv.FormatInt(e.Den, 10)
	}
	return heads[e.Kind]
}

// tell is a tree with its parts in parentheses, each behind its head; places, if they are asked, behind an @.
func tell(e api.Expr, places bool) string {
	s := head(e)
	if places {
		s += "@" + strconv.Itoa(e.At)
	}
	for _, arg := range e.Args {
		s += " " + tell(arg, places)
	}
	if len(e.Args) > 0 {
		s = "(" + s + ")"
	}
	return s
}

func short(s string) string {
	if len(s) > 80 {
		return strconv.Quote(s[:80]) + ".."
	}
	return strconv.Quote(s)
}

// one is a program with that expression.
func one(e api.Expr) api.Program {
	return api.Program{Nodes: []api.Node{{Name: "n", Eqs: []api.Eq{{Names: []string{"x"}, E: e}}}}}
}

// wantTree also asks that the tree may be: what tell leaves out is zero then.
func wantTree(t *testing.T, src, want string) {
	t.Helper()
	e, err := Expr(src)
	if err != nil || tree.May(one(e)) != api.OK || tell(e, false) != want {
		t.Errorf("Expr(%s): %s, %v, not %s", short(src), tell(e, false), err, want)
	}
}

func wantPlaces(t *testing.T, src, want string) {
	t.Helper()
	e, err := Expr(src)
	if err != nil || tell(e, true) != want {
		t.Errorf("Expr(%s): %s, %v, not %s", short(src), tell(e, true), err, want)
	}
}

// checkError asks of an error what R7 says.
func checkError(t *testing.T, src string, err error, want api.Fault) {
	t.Helper()
	var f api.Fault
	if !errors.As(err, &f) || f != want {
		t.Errorf("%s: %v, not %v", short(src), err, want)
		return
	}
	for _, n := range []api.Errno{api.ErrLong, api.ErrFull, api.ErrByte, api.ErrNumber, api.ErrName, api.ErrShape, api.ErrDeep, api.ErrBig, api.ErrSyntax, api.ErrOpen} {
		if errors.Is(err, n) != (n == want.Err) {
			t.Errorf("%s: errors.Is(%v, %d) is %v", short(src), err, n, n != want.Err)
		}
	}
	if err.Error() == "" {
		t.Errorf("%s: an error without a text", short(src))
	}
}

func wantFault(t *testing.T, src string, at int, number api.Errno) {
	t.Helper()
	e, err := Expr(src)
	checkError(t, src, err, api.Fault{At: at, Err: number})
	if tell(e, true) != tell(api.Expr{}, true) {
		t.Errorf("Expr(%s): a tree beside an error", short(src))
	}
}

func wantBadProgram(t *testing.T, src string, at int, number api.Errno) {
	t.Helper()
	p, err := Program(src)
	checkError(t, src, err, api.Fault{At: at, Err: number})
	if len(p.Nodes) != 0 {
		t.Errorf("Program(%s): nodes beside an error", short(src))
	}
}

// P6.1: the chapter's examples.
func TestExamples(t *testing.T) {
	wantTree(t, "a + b * c", "(+ a (* b c))")
	wantTree(t, "x ~> 1 / 2", "(~>1/2 x)")
	wantFault(t, "a = b = c", 6, api.ErrSyntax)
	wantFault(t, "x *^ 0", 5, api.ErrSyntax)
	wantFault(t, "f()", 2, api.ErrSyntax)
}

// P6.1: sources without anything.
func TestEmpty(t *testing.T) {
	for _, src := range []string{"", " ", "\n\t\r ", "-- nothing", "-- a\n--b\n"} {
		wantFault(t, src, len(src), api.ErrSyntax)
		if p, err := Program(src); err != nil || len(p.Nodes) != 0 {
			t.Errorf("Program(%q): %v, %v", src, p, err)
		}
	}
}

// P6.1: each alternative of an atom.
func TestAtoms(t *testing.T) {
	long := strings.Repeat("n", api.MaxName)
	wantTree(t, "0", "0")
	wantTree(t, "7", "7")
	wantTree(t, "9223372036854775807", strconv.Itoa(math.MaxInt64))
	wantTree(t, "true", "true")
	wantTree(t, "false", "false")
	wantTree(t, "x", "x")
	wantTree(t, "_", "_")
	wantTree(t, long, long)
	wantTree(t, "truer", "truer")
	wantTree(t, "f(x)", "(call-f x)")
	wantTree(t, "f ( x )", "(call-f x)")
	wantTree(t, "f\n(x,--\ny)", "(call-f x y)")
	wantTree(t, "f(if a then b else c, d fby e)", "(call-f (if a b c) (fby d e))")
	wantTree(t, "f(f(f(x), y), z)", "(call-f (call-f (call-f x) y) z)")
	wantTree(t, "(x)", "x")
	wantTree(t, "((((7))))", "7")
	wantTree(t, "(if a then b else c)", "(if a b c)")
	wantTree(t, "(a fby b)", "(fby a b)")
	wantFault(t, "()", 1, api.ErrSyntax)
	wantFault(t, "(a", 2, api.ErrSyntax)
	wantFault(t, "(a,b)", 2, api.ErrSyntax)
	wantFault(t, "(a;", 2, api.ErrSyntax)
	wantFault(t, ")", 0, api.ErrSyntax)
	wantFault(t, "a.", 1, api.ErrByte)
}

// P6.1: no Args, one, as many as may be, one more.
func TestCallArgs(t *testing.T) {
	of := func(n int) string { return "f(" + strings.Repeat("a, ", n-1) + "a)" }
	wantFault(t, "f()", 2, api.ErrSyntax)
	wantFault(t, "f( )", 3, api.ErrSyntax)
	wantFault(t, "f(", 2, api.ErrSyntax)
	wantFault(t, "f(,)", 2, api.ErrSyntax)
	wantFault(t, "f(a,)", 4, api.ErrSyntax)
	wantFault(t, "f(a b)", 4, api.ErrSyntax)
	wantFault(t, "f(a;b)", 3, api.ErrSyntax)
	wantFault(t, "f(a", 3, api.ErrSyntax)
	wantFault(t, "f(a,", 4, api.ErrSyntax)
	wantFault(t, "f(a)(b)", 4, api.ErrSyntax)
	wantFault(t, "7(a)", 1, api.ErrSyntax)
	wantFault(t, "true(a)", 4, api.ErrSyntax)
	wantFault(t, "(f)(a)", 3, api.ErrSyntax)
	wantTree(t, of(1), "(call-f a)")
	wantTree(t, of(2), "(call-f a a)")
	wantTree(t, of(api.MaxArgs), "(call-f"+strings.Repeat(" a", api.MaxArgs)+")")
	most := of(api.MaxArgs + 1)
	wantFault(t, most, len(most), api.ErrShape)
	wantFault(t, most+" -- no more\n", len(most)+12, api.ErrShape)
	wantFault(t, most+")", len(most), api.ErrSyntax)
	wantFault(t, of(5000), len(of(5000)), api.ErrShape)
}

// P6.1: what is put together from the left, and from the right.
func TestSides(t *testing.T) {
	for _, s := range strings.Fields("or and + - * / %") {
		wantTree(t, strings.Join(strings.Fields("a b c d"), " "+s+" "), "("+s+" ("+s+" ("+s+" a b) c) d)")
	}
	wantTree(t, "a - b + c - d", "(- (+ (- a b) c) d)")
	wantTree(t, "a * b / c % d", "(% (/ (* a b) c) d)")
	for _, s := range []string{"fby", "::"} {
		wantTree(t, strings.Join(strings.Fields("a b c d"), " "+s+" "), "("+s+" a ("+s+" b ("+s+" c d)))")
	}
	wantTree(t, "a fby b :: c fby d", "(fby a (:: b (fby c d)))")
	wantTree(t, "not not a", "(not (not a))")
	wantTree(t, "- - -a", "(neg (neg (neg a)))")
	wantTree(t, "tail tail a", "(tail (tail a))")
	wantTree(t, "- tail - tail a", "(neg (tail (neg (tail a))))")
	wantTree(t, "a *^ 2 /^ 3 *^ 4", "(*^4 (/^3 (*^2 a)))")
	wantTree(t, "if a then if b then c else d else if e then f else g", "(if a (if b c d) (if e f g))")
	wantTree(t, "if if a then b else c then d else e", "(if (if a b c) d e)")
	wantTree(t, "a - -b", "(- a (neg b))")
	wantTree(t, "a--b\n-c", "(- a c)")
}

// holding is a sign between two parts: how strongly it holds, and from which side it is put together (0: not at all).
type holding struct {
	sign     string
	strength int
	side     byte
}

func holdings() (list []holding) {
	for strength, line := range []struct {
		side  byte
		signs string
	}{{'r', "fby ::"}, {'l', "or"}, {'l', "and"}, {0, "= <> < <= > >="}, {'l', "+ -"}, {'l', "* / %"}} {
		for _, s := range strings.Fields(line.signs) {
			list = append(list, holding{s, strength, line.side})
		}
	}
	return list
}

// P6.1: how strongly each sign between two parts holds against each other one.
func TestStrengths(t *testing.T) {
	for _, x := range holdings() {
		for _, y := range holdings() {
			src := "a " + x.sign + " b " + y.sign + " c"
			left := "(" + y.sign + " (" + x.sign + " a b) c)"
			right := "(" + x.sign + " a (" + y.sign + " b c))"
			switch {
			case x.strength > y.strength:
				wantTree(t, src, left)
			case x.strength < y.strength:
				wantTree(t, src, right)
			case x.side == 'l':
				wantTree(t, src, left)
			case x.side == 'r':
				wantTree(t, src, right)
			default:
				wantFault(t, src, len("a ")+len(x.sign)+len(" b "), api.ErrSyntax)
			}
		}
	}
}

// P6.1: what stands ahead, behind, and if, against each sign between two parts.
func TestStrengthsOfOthers(t *testing.T) {
	for _, x := range holdings() {
		s := x.sign
		between := "a " + s + " "
		for ahead, told := range map[string]string{"-": "neg", "tail": "tail"} {
			wantTree(t, ahead+" a "+s+" b", "("+s+" ("+told+" a) b)")
			wantTree(t, between+ahead+" b", "("+s+" a ("+told+" b))")
		}
		if x.strength <= 2 {
			wantTree(t, "not a "+s+" b", "("+s+" (not a) b)")
			wantTree(t, between+"not b", "("+s+" a (not b))")
		} else {
			wantTree(t, "not a "+s+" b", "(not ("+s+" a b))")
			wantFault(t, between+"not b", len(between), api.ErrSyntax)
		}
		wantTree(t, "a "+s+" b *^ 2", "("+s+" a (*^2 b))")
		wantTree(t, "a *^ 2 "+s+" b", "("+s+" (*^2 a) b)")
		wantTree(t, "if c then d else a "+s+" b", "(if c d ("+s+" a b))")
		wantTree(t, "if a "+s+" b then c "+s+" d else e", "(if ("+s+" a b) ("+s+" c d) e)")
		wantFault(t, between+"if b then c else d", len(between), api.ErrSyntax)
		wantTree(t, between+"(if b then c else d)", "("+s+" a (if b c d))")
		wantFault(t, between, len(between), api.ErrSyntax)
		if s != "-" {
			wantFault(t, s+" a", 0, api.ErrSyntax)
		}
	}
	wantTree(t, "-a *^ 2", "(neg (*^2 a))")
	wantTree(t, "tail a ~> 1", "(tail (~>1/1 a))")
	wantTree(t, "not -a", "(not (neg a))")
	wantFault(t, "- not a", 2, api.ErrSyntax)
	wantFault(t, "tail not a", 5, api.ErrSyntax)
	wantFault(t, "- if a then b else c", 2, api.ErrSyntax)
	wantFault(t, "not if a then b else c", 4, api.ErrSyntax)
	wantFault(t, "not a not b", 6, api.ErrSyntax)
	wantFault(t, "a tail b", 2, api.ErrSyntax)
}

// P6.1: a comparison has no other one behind it.
func TestComparisons(t *testing.T) {
	for _, x := range strings.Fields("= <> < <= > >=") {
		wantTree(t, "a "+x+" b", "("+x+" a b)")
		wantTree(t, "(a "+x+" b) "+x+" c", "("+x+" ("+x+" a b) c)")
		wantTree(t, "a "+x+" (b "+x+" c)", "("+x+" a ("+x+" b c))")
		for _, y := range strings.Fields("= <> < <= > >=") {
			at := len("a ") + len(x) + len(" b ")
			wantFault(t, "a "+x+" b "+y+" c", at, api.ErrSyntax)
			wantFault(t, "f(a "+x+" b "+y+" c)", at+2, api.ErrSyntax)
			wantFault(t, "not a "+x+" b "+y+" c", at+4, api.ErrSyntax)
			wantTree(t, "a "+x+" b and c "+y+" d", "(and ("+x+" a b) ("+y+" c d))")
			wantTree(t, "not a "+x+" b or c "+y+" d", "(or (not ("+x+" a b)) ("+y+" c d))")
		}
	}
}

// P6.1: ~> NUM with and without / POS; a / behind it always belongs to it.
func TestLate(t *testing.T) {
	wantTree(t, "x ~> 1", "(~>1/1 x)")
	wantTree(t, "x ~> 0", "(~>0/1 x)")
	wantTree(t, "x ~> 0 / 5", "(~>0/5 x)")
	wantTree(t, "x~>2/4", "(~>2/4 x)")
	wantTree(t, "x ~> 9223372036854775807 / 9223372036854775807", "(~>9223372036854775807/9223372036854775807 x)")
	wantTree(t, "x ~> 1 / 2 / 3", "(/ (~>1/2 x) 3)")
	wantTree(t, "x ~> 1 / 2 / y", "(/ (~>1/2 x) y)")
	wantTree(t, "(x ~> 1) / 2", "(/ (~>1/1 x) 2)")
	wantTree(t, "x ~> 1 / 2 ~> 3", "(~>3/1 (~>1/2 x))")
	wantTree(t, "x ~> 1 ~> 2 / 3", "(~>2/3 (~>1/1 x))")
	wantTree(t, "x ~> 1 *^ 2", "(*^2 (~>1/1 x))")
	wantTree(t, "x ~> 1 /^ 2", "(/^2 (~>1/1 x))")
	wantTree(t, "x ~> 1 / 2 *^ 3 /^ 4", "(/^4 (*^3 (~>1/2 x)))")
	wantTree(t, "x *^ 3 ~> 1 / 2", "(~>1/2 (*^3 x))")
	wantTree(t, "x *^ 3 / 2", "(/ (*^3 x) 2)")
	wantTree(t, "x ~> 1 * 2", "(* (~>1/1 x) 2)")
	wantTree(t, "x ~> 1 % 2", "(% (~>1/1 x) 2)")
	wantTree(t, "x ~> 1 + 2 / 3", "(+ (~>1/1 x) (/ 2 3))")
	wantTree(t, "a / x ~> 1 / 2 / b", "(/ (/ a (~>1/2 x)) b)")
	wantTree(t, "x ~> 1 = y ~> 2", "(= (~>1/1 x) (~>2/1 y))")
	for _, behind := range strings.Fields("0 y (2) ( -1 true tail 00 / ~> * )") {
		want := api.ErrSyntax
		if behind == "00" {
			want = api.ErrNumber
		}
		wantFault(t, "x ~> 1 / "+behind, 9, want)
	}
	wantFault(t, "x ~> 1 /", 8, api.ErrSyntax)
	wantFault(t, "x ~> 1 / 2 / ", 13, api.ErrSyntax)
	wantFault(t, "x ~>", 4, api.ErrSyntax)
	wantFault(t, "x ~> y", 5, api.ErrSyntax)
	wantFault(t, "x ~> -1", 5, api.ErrSyntax)
	wantFault(t, "x ~> (1)", 5, api.ErrSyntax)
	wantFault(t, "x ~> 1 2", 7, api.ErrSyntax)
}

// P6.1: what is put behind a part, and numbers that are 0 there.
func TestPost(t *testing.T) {
	for _, s := range []string{"*^", "/^"} {
		wantTree(t, "x"+s+"1", "("+s+"1 x)")
		wantTree(t, "x "+s+" 9223372036854775807", "("+s+"9223372036854775807 x)")
		wantTree(t, "5 "+s+" 2", "("+s+"2 5)")
		wantTree(t, "true "+s+" 2", "("+s+"2 true)")
		wantTree(t, "f(x) "+s+" 2", "("+s+"2 (call-f x))")
		wantTree(t, "(a + b) "+s+" 2", "("+s+"2 (+ a b))")
		wantTree(t, "(-a) "+s+" 2", "("+s+"2 (neg a))")
		wantFault(t, "x "+s+" 0", 5, api.ErrSyntax)
		wantFault(t, "x "+s+" 0 + 1", 5, api.ErrSyntax)
		wantFault(t, "x "+s+" 2 "+s+" 0", 10, api.ErrSyntax)
		wantFault(t, "x "+s+" y", 5, api.ErrSyntax)
		wantFault(t, "x "+s+" -1", 5, api.ErrSyntax)
		wantFault(t, "x "+s+" (2)", 5, api.ErrSyntax)
		wantFault(t, "x "+s, 4, api.ErrSyntax)
		wantFault(t, s+" 2", 0, api.ErrSyntax)
	}
}

// P6.1: each part of an if, and each that is wanting.
func TestIf(t *testing.T) {
	wantTree(t, "if a then b else c", "(if a b c)")
	wantTree(t, "if a fby b then c fby d else e fby f", "(if (fby a b) (fby c d) (fby e f))")
	wantFault(t, "if", 2, api.ErrSyntax)
	wantFault(t, "if then b else c", 3, api.ErrSyntax)
	wantFault(t, "if a b else c", 5, api.ErrSyntax)
	wantFault(t, "if a else c", 5, api.ErrSyntax)
	wantFault(t, "if a then else c", 10, api.ErrSyntax)
	wantFault(t, "if a then b", 11, api.ErrSyntax)
	wantFault(t, "if a then b c", 12, api.ErrSyntax)
	wantFault(t, "if a then b else", 16, api.ErrSyntax)
	wantFault(t, "if a then b else c else d", 19, api.ErrSyntax)
	wantFault(t, "then a", 0, api.ErrSyntax)
	wantFault(t, "if a then b else c then d", 19, api.ErrSyntax)
}

// P6.1: what stands behind an expression.
func TestMoreBehindExpr(t *testing.T) {
	for _, more := range strings.Fields("b 1 true if not tail ) ; , : then else node tel rate due") {
		for _, e := range []string{"a", "a + b", "(a)", "f(a)", "if a then b else c", "a fby b", "a = b", "7"} {
			wantFault(t, e+" "+more, len(e)+1, api.ErrSyntax)
			wantFault(t, e+"--\n"+more+" more", len(e)+3, api.ErrSyntax)
		}
	}
}

// P6.1: lex's fault is told first, wherever it is.
func TestLexFaults(t *testing.T) {
	for _, start := range []string{"", "a", "a a", ") ) )", "x *^ 0", strings.Repeat("(", api.MaxOpen+1), "a = b = c", "node node"} {
		src := start + strings.Repeat(" ", 1000)
		for wrong, number := range map[string]api.Errno{"&": api.ErrByte, "\x00": api.ErrByte, "é": api.ErrByte, "~": api.ErrByte, "007": api.ErrNumber, "9223372036854775808": api.ErrNumber, strings.Repeat("n", api.MaxName+1): api.ErrName} {
			wantFault(t, src+wrong, len(src), number)
			wantBadProgram(t, src+wrong+" tel", len(src), number)
		}
		long := start + strings.Repeat(" ", api.MaxSource+1-len(start))
		wantFault(t, long, api.MaxSource, api.ErrLong)
		wantBadProgram(t, long, api.MaxSource, api.ErrLong)
	}
	full := strings.Repeat(") ", api.MaxTokens-1)
	wantFault(t, full, 0, api.ErrSyntax)
	wantFault(t, full+")", len(full), api.ErrFull)
	wantBadProgram(t, full, 0, api.ErrSyntax)
	wantBadProgram(t, full+")", len(full), api.ErrFull)
}

// P6.1: as many tokens as may be.
func TestManyTokens(t *testing.T) {
	long := "a" + strings.Repeat("+a", api.MaxTokens/2-1)
	if tokens, err := lex.Tokens(long); err != nil || len(tokens) != api.MaxTokens {
		t.Fatalf("%d tokens, %v", len(tokens), err)
	}
	wantFault(t, long, len(long), api.ErrDeep)
	wide := "f(" + strings.Repeat("a+a,", (api.MaxTokens-8)/4) + "a)"
	wantFault(t, wide, len(wide), api.ErrShape)
	blank := "a" + strings.Repeat(" ", api.MaxSource-1)
	wantTree(t, blank, "a")
}

// R5: no name of an answer is memory of the source; no call changes another one's answer.
func TestOwnMemory(t *testing.T) {
	src := strings.Clone("name(other, name) + more")
	e, err := Expr(src)
	if err != nil {
		t.Fatal(err)
	}
	first := uintptr(unsafe.Pointer(unsafe.StringData(src)))
	for _, part := range []api.Expr{e.Args[0], e.Args[0].Args[0], e.Args[0].Args[1], e.Args[1]} {
		at := uintptr(unsafe.Pointer(unsafe.StringData(part.Name)))
		if at >= first && at < first+uintptr(len(src)) {
			t.Errorf("%q is memory of the source", part.Name)
		}
	}
	before := tell(e, true)
	again, _ := Expr(src)
	again.Args[0].Args[0].Name = "changed"
	again.Args[1].Int = 99
	if tell(e, true) != before {
		t.Error("two answers share a list")
	}
	e.Args[0].Args = append(e.Args[0].Args[:1:1], api.Expr{Kind: api.ExInt})
	if e.Args[1].Name != "more" || e.Args[0].Args[0].Name != "other" {
		t.Error("two lists of an answer share memory")
	}
}
