package parse

import (
	"math"
	"strconv"
	"strings"
	"testing"

	"carillon/api"
	"carillon/tree"
)

// mark is a place, if places are asked.
func mark(at int, places bool) string {
	if places {
		return "@" + strconv.Itoa(at)
	}
	return ""
}

func tellParams(list []api.Param, places bool) string {
	var told []string
	for _, p := range list {
		s := p.Name + mark(p.At, places) + ":" + [3]string{"?", "int", "bool"}[p.Type]
		if p.Rate {
			s += ":" + strconv.FormatInt(p.Period, 10) + "+" + strconv.FormatInt(p.Start, 10)
		}
		if p.Due != 0 {
			s += ":<" + strconv.FormatInt(p.Due, 10)
		}
		told = append(told, s)
	}
	return "[" + strings.Join(told, " ") + "]"
}

// tellProgram is a line for each node and each equation; what it leaves out is zero in programs that may be.
func tellProgram(p api.Program, places bool) string {
	var lines []string
	for _, n := range p.Nodes {
		word := "node "
		if n.Flow {
			word = "flow "
		}
		lines = append(lines, word+n.Name+mark(n.At, places)+" "+tellParams(n.Ins, places)+tellParams(n.Outs, places)+tellParams(n.Vars, places))
		for _, q := range n.Eqs {
			lines = append(lines, strings.Join(q.Names, ",")+mark(q.At, places)+" = "+tell(q.E, places))
		}
	}
	return strings.Join(lines, "\n")
}

func wantProgram(t *testing.T, src string, want ...string) {
	t.Helper()
	p, err := Program(src)
	if got := tellProgram(p, false); err != nil || tree.May(p) != api.OK || got != strings.Join(want, "\n") {
		t.Errorf("Program(%s): %s, %v, not %s", short(src), got, err, strings.Join(want, "\n"))
	}
}

// sample has each line of the grammar.
const sample = `-- nodes first
node f(x: int; y: bool) returns (o: int; u: bool)
var v: int; w: bool;
let
  o = if y then x + 2 else -x;
  (v, w) = g(not (y or x >= 3 % v), 4);
  (u) = w and u <> true :: false;
tel
node empty() returns () let tel
flow main(i: int rate (10, 5); j: bool) returns (o: int due 8; q: int)
var k: int;
let
  o = f((0 fby k) *^ 2, tail i /^ 3 ~> 1 / 2 - 7 * k);
  (k) = i ~> 0;
tel
`

// P6.1: ordinary programs, and their order.
func TestPrograms(t *testing.T) {
	wantProgram(t, sample,
		"node f [x:int y:bool][o:int u:bool][v:int w:bool]",
		"o = (if y (+ x 2) (neg x))",
		"v,w = (call-g (not (or y (>= x (% 3 v)))) 4)",
		"u = (:: (and w (<> u true)) false)",
		"node empty [][][]",
		"flow main [i:int:10+5 j:bool][o:int:<8 q:int][k:int]",
		"o = (call-f (*^2 (fby 0 k)) (- (tail (~>1/2 (/^3 i))) (* 7 k)))",
		"k = (~>0/1 i)")
	wantProgram(t, "node n()returns()let tel", "node n [][][]")
	wantProgram(t, "flow n()returns()let tel", "flow n [][][]")
	wantProgram(t, "node b() returns () let tel flow a() returns () let tel node b() returns () let tel", "node b [][][]", "flow a [][][]", "node b [][][]")
	wantProgram(t, "node n() returns () let a = 1; b = 2; a = 3; tel", "node n [][][]", "a = 1", "b = 2", "a = 3")
	wantProgram(t, "node n() returns () let a = b = c; tel", "node n [][][]", "a = (= b c)")
}

// P6.1: each part of a node that may be left out, and left out.
func TestNodeParts(t *testing.T) {
	for i := range 32 {
		part := func(bit int, there string) string {
			if i>>bit&1 == 0 {
				return ""
			}
			return there
		}
		word := [2]string{"node", "flow"}[i>>4&1]
		src := word + " n(" + part(0, "i: int") + ") returns (" + part(1, "o: bool") + ") " + part(2, "var v: int;") + " let " + part(3, "o = i;") + " tel"
		want := []string{word + " n [" + part(0, "i:int") + "][" + part(1, "o:bool") + "][" + part(2, "v:int") + "]"}
		if i>>3&1 == 1 {
			want = append(want, "o = i")
		}
		wantProgram(t, src, want...)
	}
}

// inNode is a program with those inputs, outputs, variables and equations, and the place at which each of them begins.
func inNode(word, ins, outs, vars, eqs string) (src string, at [4]int) {
	for i, part := range []string{ins, outs, vars, eqs} {
		src += []string{word + " n(", ") returns (", ") ", " let "}[i]
		at[i] = len(src)
		src += part
	}
	return src + " tel\n", at
}

// P6.1: params in parentheses, of inputs and of outputs.
func TestParams(t *testing.T) {
	for _, c := range []struct {
		list, want string
		at         int // of the fault; -1: none
	}{
		{"", "[]", -1},
		{"a: int", "[a:int]", -1},
		{"a:bool", "[a:bool]", -1},
		{"a: int; a: bool; c: int", "[a:int a:bool c:int]", -1},
		{"a: int;", "", 7},
		{"a: int; ;", "", 8},
		{";", "", 0},
		{"; a: int", "", 0},
		{"a: int, b: int", "", 6},
		{"a: int b: int", "", 7},
		{"a, b: int", "", 1},
		{"a", "", 1},
		{"a:", "", 2},
		{"a: a", "", 3},
		{"a: node", "", 3},
		{"a: true", "", 3},
		{"a: 1", "", 3},
		{"a = int", "", 2},
		{"a :: int", "", 2},
		{"a int", "", 2},
		{"int: int", "", 0},
		{"1: int", "", 0},
		{"(a: int)", "", 0},
		{"a: int int", "", 7},
		{"a: int = 1", "", 7},
		{"a: int var", "", 7},
	} {
		for _, word := range []string{"node", "flow"} {
			checkParams(t, word, c.list, c.want, c.at)
		}
	}
}

// checkParams tries a list as inputs and as outputs.
func checkParams(t *testing.T, word, list, want string, at int) {
	t.Helper()
	in, places := inNode(word, list, "", "", "")
	if at < 0 {
		wantProgram(t, in, word+" n "+want+"[][]")
	} else {
		wantBadProgram(t, in, places[0]+at, api.ErrSyntax)
	}
	out, places := inNode(word, "", list, "", "")
	if at < 0 {
		wantProgram(t, out, word+" n []"+want+"[]")
	} else {
		wantBadProgram(t, out, places[1]+at, api.ErrSyntax)
	}
}

// P6.1: rates and deadlines where they may stand, and their numbers.
func TestRatesAndDues(t *testing.T) {
	for _, c := range []struct {
		in, want string
		at       int
	}{
		{"i: int rate (1, 0)", "[i:int:1+0]", -1},
		{"i: bool rate(10,3)", "[i:bool:10+3]", -1},
		{"i: int rate (10, 3); j: int; k: bool rate (9223372036854775807, 9223372036854775807)", "[i:int:10+3 j:int k:bool:9223372036854775807+9223372036854775807]", -1},
		{"i: int rate (0, 0)", "", 13},
		{"i: int rate (0, 1)", "", 13},
		{"i: int rate (1)", "", 14},
		{"i: int rate (1,)", "", 15},
		{"i: int rate (1; 0)", "", 14},
		{"i: int rate (1, 0, 0)", "", 17},
		{"i: int rate ()", "", 13},
		{"i: int rate (, 1)", "", 13},
		{"i: int rate 1, 0", "", 12},
		{"i: int rate", "", 11},
		{"i: int rate (-1, 0)", "", 13},
		{"i: int rate (1, -1)", "", 16},
		{"i: int rate (n, 0)", "", 13},
		{"i: int rate (1, n)", "", 16},
		{"i: int rate (1, 0) rate (1, 0)", "", 19},
		{"i: int rate (1, 0) due 1", "", 19},
		{"i: int due 1", "", 7},
		{"i: rate (1, 0)", "", 3},
		{"i: int (1, 0)", "", 7},
	} {
		src, at := inNode("flow", c.in, "", "", "")
		if c.at < 0 {
			wantProgram(t, src, "flow n "+c.want+"[][]")
		} else {
			wantBadProgram(t, src, at[0]+c.at, api.ErrSyntax)
		}
	}
	for _, c := range []struct {
		out, want string
		at        int
	}{
		{"o: int due 1", "[o:int:<1]", -1},
		{"o: bool due 9223372036854775807; p: int; q: int due 2", "[o:bool:<" + strconv.Itoa(math.MaxInt64) + " p:int q:int:<2]", -1},
		{"o: int due 0", "", 11},
		{"o: int due", "", 10},
		{"o: int due -1", "", 11},
		{"o: int due (1)", "", 11},
		{"o: int due n", "", 11},
		{"o: int due 1 due 1", "", 13},
		{"o: int due 1 2", "", 13},
		{"o: int due 1 rate (1, 0)", "", 13},
		{"o: int rate (1, 0)", "", 7},
	} {
		src, at := inNode("flow", "", c.out, "", "")
		if c.at < 0 {
			wantProgram(t, src, "flow n []"+c.want+"[]")
		} else {
			wantBadProgram(t, src, at[1]+c.at, api.ErrSyntax)
		}
	}
}

// P6.1: rates and deadlines where they may not stand.
func TestRatesAndDuesElsewhere(t *testing.T) {
	const rate, due = "a: int rate (1, 0)", "a: int due 1"
	for _, p := range []string{rate, due} {
		for _, ahead := range []string{"", "b: bool; "} {
			src, at := inNode("node", ahead+p, "", "", "")
			wantBadProgram(t, src, at[0]+len(ahead)+7, api.ErrSyntax)
			src, at = inNode("node", "", ahead+p, "", "")
			wantBadProgram(t, src, at[1]+len(ahead)+7, api.ErrSyntax)
			for _, word := range []string{"node", "flow"} {
				src, at = inNode(word, "", "", "var "+ahead+p+";", "")
				wantBadProgram(t, src, at[2]+4+len(ahead)+7, api.ErrSyntax)
			}
		}
	}
	src, at := inNode("flow", due, "", "", "")
	wantBadProgram(t, src, at[0]+7, api.ErrSyntax)
	src, at = inNode("flow", "", rate, "", "")
	wantBadProgram(t, src, at[1]+7, api.ErrSyntax)
	// A node behind a flow is none.
	flow, _ := inNode("flow", rate, due, "", "")
	src, at = inNode("node", rate, "", "", "")
	wantBadProgram(t, flow+src, len(flow)+at[0]+7, api.ErrSyntax)
	src, at = inNode("node", "", due, "", "")
	wantBadProgram(t, flow+src, len(flow)+at[1]+7, api.ErrSyntax)
}

// P6.1: variables: one at least, and the last semicolon.
func TestVars(t *testing.T) {
	for _, c := range []struct {
		vars, want string
		at         int
	}{
		{"", "[]", -1},
		{"var v: int;", "[v:int]", -1},
		{"var v: int; w: bool;", "[v:int w:bool]", -1},
		{"var v: int; w: bool; x: int; v: int;", "[v:int w:bool x:int v:int]", -1},
		{"var", "", 4},
		{"var ;", "", 4},
		{"var v: int", "", 11},
		{"var v: int; w: bool", "", 20},
		{"var v: int;;", "", 11},
		{"var v: int; ; w: bool;", "", 12},
		{"var v: int; var w: bool;", "", 12},
		{"var v: int; tel", "", 12},
		{"var (v: int);", "", 4},
		{"var v: int, w: int;", "", 10},
		{"var v;", "", 5},
		{"v: int;", "", 0},
		{"; ", "", 0},
	} {
		for _, word := range []string{"node", "flow"} {
			src, at := inNode(word, "", "", c.vars, "")
			if c.at < 0 {
				wantProgram(t, src, word+" n [][]"+c.want)
			} else {
				wantBadProgram(t, src, at[2]+c.at, api.ErrSyntax)
			}
		}
	}
}

// P6.1: equations: what they tell, and their ends.
func TestEqs(t *testing.T) {
	for _, c := range []struct {
		eqs, want string
		at        int
	}{
		{"x = 1;", "x = 1", -1},
		{"(x) = 1;", "x = 1", -1},
		{"(x, y) = f(1);", "x,y = (call-f 1)", -1},
		{"(x,x,x)=(1);", "x,x,x = 1", -1},
		{"x = if a then b else c; y = a fby b;", "x = (if a b c)\ny = (fby a b)", -1},
		{"x = 1", "", 6},
		{"x = ;", "", 4},
		{"x 1;", "", 2},
		{"x == 1;", "", 3},
		{"x : 1;", "", 2},
		{"= 1;", "", 0},
		{"1 = x;", "", 0},
		{"() = 1;", "", 1},
		{"(x,) = 1;", "", 3},
		{"(x; y) = 1;", "", 2},
		{"(x y) = 1;", "", 3},
		{"((x)) = 1;", "", 1},
		{"(x = 1;", "", 3},
		{"x, y = 1;", "", 1},
		{"x = 1;;", "", 6},
		{"x = 1; ; y = 2;", "", 7},
		{"f(x) = 1;", "", 1},
		{"x = 1, 2;", "", 5},
		{"x = a = b = c;", "", 10},
		{"x = 1 y = 2;", "", 6},
		{"let x = 1;", "", 0},
		{"var x: int;", "", 0},
		{"true = 1;", "", 0},
	} {
		src, at := inNode("node", "", "", "", c.eqs)
		if c.at < 0 {
			wantProgram(t, src, "node n [][][]", c.want)
		} else {
			wantBadProgram(t, src, at[3]+c.at, api.ErrSyntax)
		}
	}
}

// P6.1: what stands between nodes, and behind the last one.
func TestMoreBehindProgram(t *testing.T) {
	whole := "node n() returns () let tel"
	for _, ahead := range []string{"", whole, whole + "\n" + whole} {
		for _, more := range strings.Fields("tel let var returns x 1 true ( ) ; , : = - if int rate due main") {
			wantBadProgram(t, ahead+" "+more, len(ahead)+1, api.ErrSyntax)
			wantBadProgram(t, ahead+" "+more+" "+whole, len(ahead)+1, api.ErrSyntax)
		}
		wantBadProgram(t, ahead+" node", len(ahead)+5, api.ErrSyntax)
		wantBadProgram(t, ahead+" flow", len(ahead)+5, api.ErrSyntax)
		wantBadProgram(t, ahead+" node flow n", len(ahead)+6, api.ErrSyntax)
		wantBadProgram(t, ahead+" node if() returns () let tel", len(ahead)+6, api.ErrSyntax)
		wantBadProgram(t, ahead+" node n(", len(ahead)+8, api.ErrSyntax)
	}
}

// lines is a source of so many of one.
func lines(n int, one string) string { return strings.Repeat(one, n) }

// P6.1: each of tree.May's errors, at the place of the end; nothing is told at the limits.
func TestTreeErrors(t *testing.T) {
	params := func(n int) string { return strings.Repeat("p: int; ", n-1) + "p: bool" }
	node := func(ins, outs, vars, eqs string) string {
		src, _ := inNode("flow", ins, outs, vars, eqs)
		return src
	}
	names := func(n int) string { return "(" + strings.Repeat("x, ", n-1) + "x) = 1;" }
	args := func(n int) string { return "x = f(" + strings.Repeat("x, ", n-1) + "x);" }
	deep := func(n int) string { return "x = " + strings.Repeat("tail ", n-1) + "x;" }
	// Each f has MaxArgs leaves and itself.
	wide := func(size int) string {
		whole := "f(" + strings.Repeat("x,", api.MaxArgs-1) + "x)"
		return "x = " + strings.Repeat("0;x=", size%33) + strings.Repeat(whole+";x=", size/33-1) + whole + ";"
	}
	for _, c := range []struct {
		what, fits, over string
		number           api.Errno
	}{
		{"nodes", lines(api.MaxNodes, node("", "", "", "")), lines(api.MaxNodes+1, node("", "", "", "")), api.ErrBig},
		{"inputs", node(params(api.MaxParams), "", "", ""), node(params(api.MaxParams+1), "", "", ""), api.ErrBig},
		{"outputs", node("", params(api.MaxParams), "", ""), node("", params(api.MaxParams+1), "", ""), api.ErrBig},
		{"variables", node("", "", "var "+params(api.MaxParams)+";", ""), node("", "", "var "+params(api.MaxParams+1)+";", ""), api.ErrBig},
		{"equations", node("", "", "", lines(api.MaxEqs, "x = 1;")), node("", "", "", lines(api.MaxEqs+1, "x = 1;")), api.ErrBig},
		{"names", node("", "", "", names(api.MaxArgs)), node("", "", "", names(api.MaxArgs+1)), api.ErrShape},
		{"args", node("", "", "", args(api.MaxArgs)), node("", "", "", args(api.MaxArgs+1)), api.ErrShape},
		{"depth", node("", "", "", deep(api.MaxDepth)), node("", "", "", deep(api.MaxDepth+1)), api.ErrDeep},
		{"depth from the left", node("", "", "", "x = y"+strings.Repeat(" *^ 2", api.MaxDepth-1)+";"), node("", "", "", "x = y"+strings.Repeat(" *^ 2", api.MaxDepth)+";"), api.ErrDeep},
		{"size", lines(2, node("", "", "", wide(api.MaxSize/2))), node("", "", "", wide(api.MaxSize/2)) + node("", "", "", wide(api.MaxSize/2+1)), api.ErrBig},
		{"names, and nodes", "", lines(api.MaxNodes+1, node("", "", "", names(api.MaxArgs+1))), api.ErrBig},
		{"names, and depth", "", node("", "", "", deep(api.MaxDepth+1)+names(api.MaxArgs+1)), api.ErrShape},
		{"depth, and size", "", node("", "", "", wide(api.MaxSize-33)+deep(api.MaxDepth+1)), api.ErrDeep},
	} {
		if p, err := Program(c.fits); err != nil {
			t.Errorf("%s: %v, %d nodes", c.what, err, len(p.Nodes))
		}
		wantBadProgram(t, c.over, len(c.over), c.number)
		wantBadProgram(t, c.over+"-- the end\n ", len(c.over)+12, c.number)
		wantBadProgram(t, c.over+" tel", len(c.over)+1, api.ErrSyntax)
	}
}

// P6.1: far beyond the limits a source is read up to its end: what may not stand there is told ahead of what is too much.
func TestFarBeyondLimits(t *testing.T) {
	const more = 300
	params := strings.Repeat("p: int; ", more) + "p: int"
	names := "(" + strings.Repeat("x, ", more) + "x) = f(" + strings.Repeat("x, ", more) + "x);"
	for _, c := range []struct {
		ins, outs, vars, eqs string
		nodes                int
		number               api.Errno
	}{
		{"", "", "", "", more, api.ErrBig},
		{params, "", "", "", 1, api.ErrBig},
		{"", params, "", "", 1, api.ErrBig},
		{"", "", "var " + params + ";", "", 1, api.ErrBig},
		{"", "", "", lines(more, "x = 1;"), 1, api.ErrBig},
		{"", "", "", names, 1, api.ErrShape},
	} {
		one, _ := inNode("node", c.ins, c.outs, c.vars, c.eqs)
		src := lines(c.nodes, one)
		wantBadProgram(t, src, len(src), c.number)
		wantBadProgram(t, src+"x", len(src), api.ErrSyntax)
		wantBadProgram(t, src+"node n() returns () let x = ; tel", len(src)+28, api.ErrSyntax)
		wantBadProgram(t, src+"node n() returns () let x = "+strings.Repeat("(", api.MaxOpen+1), len(src)+28+api.MaxOpen, api.ErrOpen)
	}
}

// P6.1: those that an expression may have.
func TestTreeErrorsOfExpr(t *testing.T) {
	for _, c := range []struct {
		over   string
		number api.Errno
	}{
		{strings.Repeat("tail ", api.MaxDepth) + "x", api.ErrDeep},
		{strings.Repeat("f(", api.MaxDepth) + "x" + strings.Repeat(")", api.MaxDepth), api.ErrDeep},
		{"x" + strings.Repeat(" + x", api.MaxDepth), api.ErrDeep},
		{"x" + strings.Repeat(" + x", 5000), api.ErrDeep},
		{"f(" + strings.Repeat("x,", api.MaxArgs) + "x)", api.ErrShape},
		{"f(" + strings.Repeat("x,", api.MaxArgs) + strings.Repeat("-", 1) + strings.Repeat("tail ", 99) + "x)", api.ErrShape},
		{sized(api.MaxSize + 1), api.ErrBig},
	} {
		wantFault(t, c.over, len(c.over), c.number)
		wantFault(t, c.over+" \n--", len(c.over)+4, c.number)
		wantFault(t, c.over+" x", len(c.over)+1, api.ErrSyntax)
	}
	for _, fits := range []string{strings.Repeat("tail ", api.MaxDepth-1) + "x", "x" + strings.Repeat(" + x", api.MaxDepth-1), sized(api.MaxSize)} {
		if e, err := Expr(fits); err != nil || tree.May(one(e)) != api.OK {
			t.Errorf("%s: %v", short(fits), err)
		}
	}
}

// sized is a source of an expression of that size.
func sized(size int) string {
	if size == 1 {
		return "x"
	}
	rest := size - 1
	args := min(rest, api.MaxArgs)
	var parts []string
	for i := range args {
		parts = append(parts, sized((rest+i)/args))
	}
	return "f(" + strings.Join(parts, ",") + ")"
}
