package parse

import (
	"strings"
	"testing"
)

// P6.1: the place of an expression, with and without parentheses around it.
func TestExprPlaces(t *testing.T) {
	for _, c := range [][2]string{
		{"x", "x@0"},
		{"  x ", "x@2"},
		{"--\n7", "7@3"},
		{"\ttrue", "true@1"},
		{" false", "false@1"},
		{"(x)", "x@1"},
		{"(((x)))", "x@3"},
		{"f(x, y)", "(call-f@0 x@2 y@5)"},
		{"f ((x), ((y)))", "(call-f@0 x@4 y@10)"},
		{"((f((x))))", "(call-f@2 x@5)"},
		{"a + b", "(+@0 a@0 b@4)"},
		{"(a + b)", "(+@1 a@1 b@5)"},
		{" (a) + b", "(+@2 a@2 b@7)"},
		{"((a)) + ((b))", "(+@2 a@2 b@10)"},
		{"((a) + (b))", "(+@2 a@2 b@8)"},
		{"a + b - c", "(-@0 (+@0 a@0 b@4) c@8)"},
		{"(a + b) - c", "(-@1 (+@1 a@1 b@5) c@10)"},
		{"a + (b - c)", "(+@0 a@0 (-@5 b@5 c@9))"},
		{"a * b and c = d", "(and@0 (*@0 a@0 b@4) (=@10 c@10 d@14))"},
		{"a or b or c", "(or@0 (or@0 a@0 b@5) c@10)"},
		{"a fby b :: c", "(fby@0 a@0 (::@6 b@6 c@11))"},
		{"(a fby b) :: (c)", "(::@1 (fby@1 a@1 b@7) c@14)"},
		{"-x", "(neg@0 x@1)"},
		{"- (x)", "(neg@0 x@3)"},
		{"(-x)", "(neg@1 x@2)"},
		{"- -x + y", "(+@0 (neg@0 (neg@2 x@3)) y@7)"},
		{"tail x", "(tail@0 x@5)"},
		{"a - tail (x)", "(-@0 a@0 (tail@4 x@10))"},
		{"not x", "(not@0 x@4)"},
		{"not (not x = y)", "(not@0 (not@5 (=@9 x@9 y@13)))"},
		{"not a and not b", "(and@0 (not@0 a@4) (not@10 b@14))"},
		{"x *^ 2", "(*^2@0 x@0)"},
		{"(x) /^ 2 *^ 3", "(*^3@1 (/^2@1 x@1))"},
		{"a / x ~> 1 / 2", "(/@0 a@0 (~>1/2@4 x@4))"},
		{"(a + b) ~> 1", "(~>1/1@1 (+@1 a@1 b@5))"},
		{"if a then b else c", "(if@0 a@3 b@10 c@17)"},
		{" (if (a) then b else (c))", "(if@2 a@6 b@14 c@22)"},
		{"(if a then b else c) + d", "(+@1 (if@1 a@4 b@11 c@18) d@23)"},
		{"if if a then b else c then d else if e then f else g", "(if@0 (if@3 a@6 b@13 c@20) d@27 (if@34 e@37 f@44 g@51))"},
		{"f(a, b) *^ 2 = 7", "(=@0 (*^2@0 (call-f@0 a@2 b@5)) 7@15)"},
	} {
		wantPlaces(t, c[0], c[1])
		wantTree(t, c[0], unplaced(c[1]))
	}
}

// unplaced is what is told without its places.
func unplaced(told string) string {
	var all []string
	for _, word := range strings.Fields(told) {
		at := strings.IndexByte(word, '@')
		all = append(all, word[:at]+strings.TrimLeft(word[at+1:], "0123456789"))
	}
	return strings.Join(all, " ")
}

// P6.1: the places of nodes, params and equations.
func TestProgramPlaces(t *testing.T) {
	const src = `-- one
 node n(a: int; b:bool) returns (c: int;
d: bool)
var e: int; f: bool;
let (c) = (a) + 1; d = not b; ( e , f ) = g(a); tel
 flow m ( i : int rate (1, 0); j: bool) returns (o: int due 2; p: int) var q: int; let
  o = i; tel`
	p, err := Program(src)
	want := strings.Join([]string{
		"node n@8 [a@15:int b@23:bool][c@40:int d@48:bool][e@61:int f@69:bool]",
		"c@82 = (+@89 a@89 1@94)",
		"d@97 = (not@101 b@105)",
		"e,f@108 = (call-g@120 a@122)",
		"flow m@131 [i@140:int:1+0 j@161:bool][o@179:int:<2 p@193:int][q@205:int]",
		"o@219 = i@223",
	}, "\n")
	if got := tellProgram(p, true); err != nil || got != want {
		t.Errorf("%v, %s, not %s", err, got, want)
	}
}
