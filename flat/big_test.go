package flat

import (
	"strconv"
	"strings"
	"testing"

	"carillon/api"
)

// wantAt asks of src that the fault of that number is told at its mark, an @; of OK that it is flattened.
func wantAt(t *testing.T, what, src string, want api.Errno) {
	t.Helper()
	ahead, behind, _ := strings.Cut(src, "@")
	p := program(t, ahead+behind)
	if want == api.OK {
		flattened(t, p)
		return
	}
	wantFault(t, what, p, api.Fault{At: len(ahead), Err: want})
}

// series is one text for each number below many: the letter, the number, and what is behind.
func series(letter string, many int, behind, between string) string {
	var all []string
	for i := range many {
		all = append(all, letter+strconv.Itoa(i)+behind)
	}
	return strings.Join(all, between)
}

// nested is a call of a call, and so on, of that Arg.
func nested(name string, times int, arg string) string {
	return strings.Repeat(name+"(", times) + arg + strings.Repeat(")", times)
}

// mainOf is a node f and a flow main that has an input i, an output o, and so many variables v0, v1 and so on.
func mainOf(vars int, eqs string) string {
	text := ""
	if vars > 0 {
		text = "var " + series("v", vars, ": int", "; ") + ";"
	}
	return "node f(x: int) returns (y: int) let y = x; tel flow m(i: int rate (5, 0)) returns (o: int) " + text + " let " + eqs + " tel"
}

// hoard is a flow h that has 34 variables: an input, an output, and 32 that a node tells.
func hoard() string {
	return "node all(x: int) returns (" + series("y", 32, ": int", "; ") + ") let " + series("y", 32, " = x;", " ") + " tel " +
		"flow h(a: int) returns (b: int) var " + series("v", 32, ": int", "; ") + "; let (" + series("v", 32, "", ", ") + ") = all(a); b = a; tel "
}

// P8.1: as many variables of the program as there may be: 15 hoards have 510, main has 2.
func TestProgramVars(t *testing.T) {
	full := nested("h", 15, "i")
	wantVars := func(eqs string, main int, ahead string, want api.Errno) {
		t.Helper()
		wantAt(t, eqs, hoard()+ahead+mainOf(main, eqs), want)
	}
	wantVars("o = "+full+";", 0, "", api.OK)
	wantVars("o = f("+full+");", 0, "", api.OK)
	wantVars("v0 = i; o = @"+full+";", 1, "", api.ErrBig)
	wantVars("o = @f("+full+") *^ 2;", 0, "", api.ErrBig)
	wantVars("o = f(@f("+full+"));", 0, "", api.ErrBig)
	wantVars("o = @"+nested("h", 15, "tail f(i)")+";", 0, "", api.ErrBig)
	wantVars("v0 = "+nested("h", 14, "i")+"; o = v0;", 1, "", api.OK)
	wantVars("o = "+nested("h", 14, "i")+"; v0 = f(@h(i));", 1, "", api.ErrBig)
	// The innermost ones have their variables first.
	wantVars("o = "+strings.Repeat("h(", 5)+"@"+nested("h", 16, "i")+strings.Repeat(")", 5)+";", 0, "", api.ErrBig)
	// Of what a flow calls: at that call, within the flow.
	wantVars("o = k(i);", 0, "flow k(a: int) returns (b: int) let b = tail "+nested("h", 14, "a")+"; tel ", api.OK)
	within := "flow k(a: int) returns (b: int) let b = tail @" + nested("h", 15, "a") + "; tel "
	wantVars("o = k(i);", 0, within, api.ErrBig)
	wantVars("o = f(k(f(i)));", 0, within, api.ErrBig)
	// The second of a flow's calls, in main: what there is room for changes.
	wantVars("o = k(f(k(i)));", 0, "flow k(a: int) returns (b: int) let b = "+nested("h", 6, "a")+"; tel ", api.OK)
	wantVars("o = k(k(i));", 0, "flow k(a: int) returns (b: int) let b = h(@"+nested("h", 7, "a")+"); tel ", api.ErrBig)
}

// P8.1: as many copies as there can be are no more than there may be, since each tells a variable of its own.
func TestCopiesOfAll(t *testing.T) {
	one := "flow k(a: int) returns (b: int) let b = a; tel "
	rows := ""
	for i := range 5 {
		rows += " v" + strconv.Itoa(i) + " = " + nested("k", 50, "i") + ";"
	}
	src := one + mainOf(6, "o = i;"+rows+" v5 = k(i);")
	f := flattened(t, program(t, src))
	if len(f.Vars) != api.MaxVars-2 || len(f.Copies) != api.MaxVars-3 {
		t.Errorf("%d variables, %d copies", len(f.Vars), len(f.Copies))
	}
	f = flattened(t, program(t, one+mainOf(8, "o = i;"+rows+" v5 = k(i); v6 = i; v7 = i;")))
	if len(f.Vars) != api.MaxVars || len(f.Copies) != api.MaxVars-1 {
		t.Errorf("%d variables, %d copies", len(f.Vars), len(f.Copies))
	}
	wantAt(t, "one more", one+mainOf(9, "o = i;"+rows+" v5 = @k(i); v6 = i; v7 = i; v8 = i;"), api.ErrBig)
}

// P8.1: as many calls of nodes as there may be, in the order in which they are put behind the others.
func TestManyCalls(t *testing.T) {
	two := "v0 = " + nested("f", 63, "i") + "; v1 = " + nested("f", 63, "v0") + "; "
	wantCalls := func(eqs string, ahead string, want api.Errno) {
		t.Helper()
		wantAt(t, eqs, ahead+mainOf(2, eqs), want)
	}
	wantCalls(two+"o = f(f(v1));", "", api.OK)
	wantCalls(two+"o = @f(f(f(v1)));", "", api.ErrBig)
	wantCalls(two+"o = f(f(@f(f(f(v1)))));", "", api.ErrBig)
	wantCalls(two+"o = tail @f(f(f(v1)));", "", api.ErrBig)
	wantCalls("o = f(f(v1)); v0 = "+nested("f", 63, "i")+"; v1 = "+nested("f", 63, "v0")+";", "", api.OK)
	wantCalls("o = f(f(f(v1))); v0 = "+nested("f", 63, "i")+"; v1 = @"+nested("f", 63, "v0")+";", "", api.ErrBig)
	// Flows count for nothing by themselves; what they call does.
	flows := "flow k(a: int) returns (b: int) let b = a; tel flow l(a: int) returns (b: int) let b = @f(a); tel "
	wantCalls(two+"o = f(k(f(k(k(v1)))));", strings.Replace(flows, "@", "", 1), api.OK)
	wantCalls(two+"o = f(k(l(v1)));", strings.Replace(flows, "@", "", 1), api.OK)
	wantCalls(two+"o = l(f(f(v1)));", flows, api.ErrBig)
	wantCalls(two+"o = l(l(l(v1)));", flows, api.ErrBig)
}

// doubled are nodes d0, d1 and so on up to that one: each calls the one ahead twice. The body of dk has 2 + .. + 2 to the (k + 1) variables.
func doubled(last int) string {
	text := "node d0(x: int) returns (y: int) let y = x; tel "
	for i := 1; i <= last; i++ {
		ahead := "d" + strconv.Itoa(i-1)
		text += "node d" + strconv.Itoa(i) + "(x: int) returns (y: int) let y = " + ahead + "(" + ahead + "(x)); tel "
	}
	return text
}

// P8.1: as many variables of a body as there may be, told at the first call of that node in a flow.
func TestBodyVars(t *testing.T) {
	wantAt(t, "below the bound", doubled(7)+mainOf(0, "o = d7(i);"), api.OK)
	n := "node n(x: int) returns (y: int) let y = d7(x); tel "
	wantAt(t, "at the bound", doubled(7)+n+mainOf(0, "o = f(n(f(i)));"), api.OK)
	for _, c := range []struct{ node, call string }{
		{"node n(x: int) returns (y: int) var z: int; let y = d7(x); z = x; tel ", "n(i)"},
		{"node n(x: int; z: int) returns (y: int) let y = d7(x); tel ", "n(i, i)"},
		{"node n(x: int) returns (y: int) let y = d7(d0(x)); tel ", "n(i)"},
		// The order comes behind.
		{"node n(x: int) returns (y: int) var z: int; let z = z; y = d7(x); tel ", "n(i)"},
	} {
		nodes := doubled(7) + c.node
		wantAt(t, "above the bound", nodes+mainOf(0, "o = @"+c.call+";"), api.ErrBig)
		wantAt(t, "as a part", nodes+mainOf(1, "v0 = f(i); o = tail f(@"+c.call+"); "), api.ErrBig)
		wantAt(t, "the first of two", nodes+mainOf(1, "o = f(@"+c.call+"); v0 = "+c.call+";"), api.ErrBig)
		wantAt(t, "in a flow", nodes+"flow k(i: int) returns (b: int) let b = @"+c.call+"; tel "+mainOf(0, "o = f(k(i));"), api.ErrBig)
		wantAt(t, "of nobody", nodes+mainOf(0, "o = f(i);"), api.OK)
	}
}

// P8.1, R1: nodes, and flows, that call each other so often that it would never end.
func TestEndless(t *testing.T) {
	nodes := doubled(61)
	wantAt(t, "nodes without end", nodes+mainOf(0, "o = @d61(i);"), api.ErrBig)
	// A d1 finds room for itself and its inner d0, not for the outer one.
	flows := strings.ReplaceAll(nodes, "node d", "flow d")
	within := strings.Replace(flows, "let y = d0(d0(x))", "let y = @d0(d0(x))", 1)
	wantAt(t, "flows without end", within+mainOf(0, "o = d61(i);"), api.ErrBig)
}

// sum is an expression of that size, which is above 0 and at most 126.
func sum(size int) string {
	if size%2 == 0 {
		return "-" + sum(size-1)
	}
	return "x" + strings.Repeat(" + x", size/2)
}

// sized is a node of one input and one output whose body's expressions have that size in all.
func sized(name string, size int) string {
	eqs, many := "", 0
	for size > 100 {
		eqs += "u" + strconv.Itoa(many) + " = " + sum(100) + "; "
		many++
		size -= 100
	}
	vars := ""
	if many > 0 {
		vars = "var " + series("u", many, ": int", "; ") + ";"
	}
	return "node " + name + "(x: int) returns (y: int) " + vars + " let " + eqs + "y = " + sum(size) + "; tel "
}

// P8.1: as great as all bodies may be, told at the first call of the node with which they are too great.
func TestWork(t *testing.T) {
	// With what it calls, n has 4 more than twice the size of b.
	n := "node n(x: int) returns (y: int) let y = -b(b(x)); tel "
	wantAt(t, "at the bound", sized("b", 2046)+n+mainOf(0, "o = n(i);"), api.OK)
	wantAt(t, "above it", sized("b", 2047)+n+mainOf(0, "o = @n(i);"), api.ErrBig)
	n = strings.Replace(n, "-b", "- -b", 1)
	wantAt(t, "one above it", sized("b", 2046)+n+mainOf(0, "o = @n(i);"), api.ErrBig)
	loop := strings.Replace(n, "let", "var z: int; let z = z;", 1)
	wantAt(t, "one above it, and a ring", sized("b", 2046)+loop+mainOf(0, "o = @n(i);"), api.ErrBig)
	// Of several bodies: f has 1, c and e have twice the size of b, and 3.
	two := sized("b", 1022) + "node c(x: int) returns (y: int) let y = b(b(x)); tel node e(x: int) returns (y: int) let y = b(b(x)); tel "
	wantAt(t, "two", two+mainOf(0, "o = c(e(c(i)));"), api.OK)
	wantAt(t, "two, and one", two+mainOf(0, "o = f(c(e(f(c(i)))));"), api.OK)
	k := sized("k", 1) + sized("l", 2)
	wantAt(t, "at the bound by all", two+k+mainOf(0, "o = f(c(e(k(i))));"), api.OK)
	wantAt(t, "the last one", two+k+mainOf(0, "o = f(c(e(k(f(@b(i))))));"), api.ErrBig)
	wantAt(t, "the last one, by one", two+k+mainOf(0, "o = f(c(e(f(@l(i)))));"), api.ErrBig)
	wantAt(t, "a great one", two+k+mainOf(0, "o = k(l(c(f(@e(l(i))))));"), api.ErrBig)
	wantAt(t, "in a flow", two+k+"flow s(a: int) returns (b: int) let b = f(@l(a)); tel "+mainOf(0, "o = s(s(f(c(e(i)))));"), api.ErrBig)
	wantAt(t, "what is not called", two+k+sized("g", 1000)+mainOf(0, "o = c(e(i));"), api.OK)
}

// P8.1: which of two is told, as it goes.
func TestFirst(t *testing.T) {
	nodes := doubled(8) + "node p(x: int) returns (y: int) let y = y; tel node q(x: int) returns (y: int) let y = y; tel "
	ofP := strings.Replace(nodes, "let y = y", "let @y = y", 1)
	ofQ := strings.Replace(nodes, "q(x: int) returns (y: int) let y", "q(x: int) returns (y: int) let @y", 1)
	wantFirst := func(nodes, eqs string, want api.Errno) {
		t.Helper()
		rest := ""
		for _, v := range []string{"v0", "v1"} {
			if !strings.Contains(eqs, v+" =") {
				rest += v + " = i; "
			}
		}
		wantAt(t, eqs, nodes+"flow s(a: int) returns (b: int) let b = q(a); tel "+mainOf(2, eqs+" "+rest), want)
	}
	// Equation by equation; a call ahead of its Args, these in order; a flow's Args ahead of what it calls.
	wantFirst(ofP, "o = p(i); v0 = q(i);", api.ErrLoop)
	wantFirst(ofQ, "v0 = q(i); o = p(i);", api.ErrLoop)
	wantFirst(ofP, "o = f(p(q(i)));", api.ErrLoop)
	wantFirst(ofQ, "o = tail q(f(p(i)));", api.ErrLoop)
	wantFirst(ofP, "o = s(f(p(i)));", api.ErrLoop)
	wantFirst(ofQ, "o = s(i); v0 = p(i);", api.ErrLoop)
	wantFirst(ofP, "o = p(s(i));", api.ErrLoop)
	wantFirst(nodes, "o = @d8(p(i));", api.ErrBig)
	wantFirst(ofP, "o = p(d8(i));", api.ErrLoop)
	// A body is made as soon as its first call is begun, ahead of variables, and of calls that are too many.
	full := "v0 = " + nested("f", 63, "i") + "; v1 = " + nested("f", 63, "v0") + "; "
	wantFirst(ofP, full+"o = p(f(f(f(v1))));", api.ErrLoop)
	wantFirst(nodes, full+"o = @d8(f(f(f(v1))));", api.ErrBig)
	wantFirst(nodes, full+"o = tail @f(f(f(v1)));", api.ErrBig)
}
