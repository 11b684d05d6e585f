package show

import (
	"math"
	"math/rand"
	"strconv"
	"strings"
	"testing"
	"unsafe"

	"carillon/api"
	"carillon/tree"
)

func of(kind uint8, args ...api.Expr) api.Expr { return api.Expr{Kind: kind, Args: args} }
func variable(name string) api.Expr            { return api.Expr{Kind: api.ExVar, Name: name} }
func number(n int64) api.Expr                  { return api.Expr{Kind: api.ExInt, Int: n} }
func truth(n int64) api.Expr                   { return api.Expr{Kind: api.ExBool, Int: n} }
func neg(e api.Expr) api.Expr                  { return of(api.ExNeg, e) }
func tail(e api.Expr) api.Expr                 { return of(api.ExTail, e) }
func not(e api.Expr) api.Expr                  { return of(api.ExNot, e) }
func sum(a, b api.Expr) api.Expr               { return of(api.ExAdd, a, b) }
func fby(a, b api.Expr) api.Expr               { return of(api.ExFby, a, b) }
func cons(a, b api.Expr) api.Expr              { return of(api.ExCons, a, b) }
func choice(a, b, c api.Expr) api.Expr         { return of(api.ExIf, a, b, c) }

func call(name string, args ...api.Expr) api.Expr {
	return api.Expr{Kind: api.ExCall, Name: name, Args: args}
}

func up(e api.Expr, n int64) api.Expr {
	return api.Expr{Kind: api.ExUp, Int: n, Args: []api.Expr{e}}
}

func down(e api.Expr, n int64) api.Expr {
	return api.Expr{Kind: api.ExDown, Int: n, Args: []api.Expr{e}}
}

func late(e api.Expr, n, den int64) api.Expr {
	return api.Expr{Kind: api.ExLate, Int: n, Den: den, Args: []api.Expr{e}}
}

func repeat[T any](n int, one T) []T {
	list := make([]T, n)
	for i := range list {
		list[i] = one
	}
	return list
}

func wantExpr(t *testing.T, e api.Expr, want string) {
	t.Helper()
	if got, no := Expr(e); got != want || no != api.OK {
		t.Errorf("%q, %v, not %q", got, no, want)
	}
}

func wantNoExpr(t *testing.T, what string, e api.Expr, want api.Errno) {
	t.Helper()
	if got, no := Expr(e); got != "" || no != want {
		t.Errorf("%s: %d bytes, %v, not %v", what, len(got), no, want)
	}
}

// pattern is a kind's text by the chapter's table: #n is the next of its Args at the strength n. holds is how strongly it holds.
type pattern struct {
	e     api.Expr // without Args
	text  string
	holds int
}

func patterns() []pattern {
	return []pattern{
		{variable("v"), "v", 10},
		{number(7), "7", 10},
		{truth(1), "true", 10},
		{truth(0), "false", 10},
		{call("f"), "f(#0)", 10},
		{call("g"), "g(#0, #0)", 10},
		{call("h"), "h(#0, #0, #0)", 10},
		{of(api.ExNeg), "-#8", 8},
		{of(api.ExNot), "not #4", 4},
		{of(api.ExAdd), "#6 + #7", 6},
		{of(api.ExSub), "#6 - #7", 6},
		{of(api.ExMul), "#7 * #8", 7},
		{of(api.ExDiv), "#7 / #8", 7},
		{of(api.ExMod), "#7 % #8", 7},
		{of(api.ExEq), "#6 = #6", 5},
		{of(api.ExNe), "#6 <> #6", 5},
		{of(api.ExLt), "#6 < #6", 5},
		{of(api.ExLe), "#6 <= #6", 5},
		{of(api.ExGt), "#6 > #6", 5},
		{of(api.ExGe), "#6 >= #6", 5},
		{of(api.ExAnd), "#3 and #4", 3},
		{of(api.ExOr), "#2 or #3", 2},
		{of(api.ExIf), "if #0 then #0 else #0", 0},
		{of(api.ExFby), "#2 fby #1", 1},
		{of(api.ExCons), "#2 :: #1", 1},
		{of(api.ExTail), "tail #8", 8},
		{api.Expr{Kind: api.ExUp, Int: 3}, "#9 *^ 3", 9},
		{api.Expr{Kind: api.ExDown, Int: 3}, "#9 /^ 3", 9},
		{api.Expr{Kind: api.ExLate, Int: 3, Den: 4}, "#9 ~> 3/4", 9},
	}
}

// made is an expression, with its text as the patterns tell it and how strongly it holds.
type made struct {
	e     api.Expr
	text  string
	holds int
}

// fill is a pattern with its Args put in: all that pick answers.
func (p pattern) fill(pick func() made) made {
	e, text := p.e, p.text
	e.Args = nil
	for at := strings.IndexByte(text, '#'); at >= 0; at = strings.IndexByte(text, '#') {
		arg := pick()
		inner := arg.text
		if arg.holds < int(text[at+1]-'0') {
			inner = "(" + inner + ")"
		}
		if e.Kind == api.ExNeg && strings.HasPrefix(inner, "-") {
			inner = " " + inner
		}
		e.Args = append(e.Args, arg.e)
		text = text[:at] + inner + text[at+2:]
	}
	return made{e, text, p.holds}
}

func (p pattern) args() int { return strings.Count(p.text, "#") }

func leaf() made { return made{variable("x"), "x", 10} }

// with is a pattern whose one Arg is inner, and whose others are x.
func (p pattern) with(place int, inner made) made {
	return p.fill(func() made {
		place--
		if place == -1 {
			return inner
		}
		return leaf()
	})
}

// P5.1: the chapter's examples.
func TestExamples(t *testing.T) {
	a, b, c, x := variable("a"), variable("b"), variable("c"), variable("x")
	wantExpr(t, neg(neg(number(5))), "- -5")
	wantExpr(t, of(api.ExMul, sum(a, b), c), "(a + b) * c")
	wantExpr(t, sum(a, sum(b, c)), "a + (b + c)")
	wantExpr(t, up(fby(number(0), x), 2), "(0 fby x) *^ 2")
	wantExpr(t, of(api.ExDiv, late(x, 1, 2), number(3)), "x ~> 1/2 / 3")
	wantExpr(t, not(of(api.ExEq, a, b)), "not a = b")
	wantExpr(t, not(of(api.ExAnd, a, b)), "not (a and b)")
}

// P5.1: every kind by itself, in every kind, and in every kind in every kind, at each place of Args.
func TestKindsWithinKinds(t *testing.T) {
	for _, outer := range patterns() {
		alone := outer.fill(leaf)
		wantExpr(t, alone.e, alone.text)
		for place := range outer.args() {
			for _, inner := range patterns() {
				both := outer.with(place, inner.fill(leaf))
				wantExpr(t, both.e, both.text)
				for deeper := range inner.args() {
					for _, innermost := range patterns() {
						all := outer.with(place, inner.with(deeper, innermost.fill(leaf)))
						wantExpr(t, all.e, all.text)
					}
				}
			}
		}
	}
}

// P5.1: made trees, as deep as may be.
func TestMadeTrees(t *testing.T) {
	r := rand.New(rand.NewSource(5))
	all := patterns()
	var grow func(depth int) made
	grow = func(depth int) made {
		if depth == 1 || r.Intn(5) == 0 {
			return leaf()
		}
		return all[r.Intn(len(all))].fill(func() made { return grow(depth - 1) })
	}
	for range 3000 {
		m := grow(1 + r.Intn(7))
		wantExpr(t, m.e, m.text)
	}
	for range 300 {
		m := leaf()
		for range api.MaxDepth - 1 {
			p := all[4+r.Intn(len(all)-4)]
			m = p.with(r.Intn(p.args()), m)
		}
		wantExpr(t, m.e, m.text)
	}
}

// P5.1: - ahead, beside itself and where it stands first.
func TestNeg(t *testing.T) {
	a, b := variable("a"), variable("b")
	for _, x := range []struct {
		e    api.Expr
		want string
	}{
		{neg(number(0)), "-0"},
		{neg(number(5)), "-5"},
		{neg(a), "-a"},
		{neg(neg(a)), "- -a"},
		{neg(neg(neg(a))), "- - -a"},
		{neg(tail(neg(a))), "-tail -a"},
		{tail(neg(tail(a))), "tail -tail a"},
		{neg(sum(neg(a), b)), "-(-a + b)"},
		{neg(of(api.ExSub, neg(a), b)), "-(-a - b)"},
		{neg(of(api.ExMul, neg(a), b)), "-(-a * b)"},
		{neg(of(api.ExDiv, neg(neg(a)), b)), "-(- -a / b)"},
		{neg(call("f", neg(a), neg(b))), "-f(-a, -b)"},
		{neg(of(api.ExEq, neg(a), b)), "-(-a = b)"},
		{neg(up(neg(a), 2)), "-(-a) *^ 2"},
		{neg(up(a, 2)), "-a *^ 2"},
		{up(neg(number(5)), 2), "(-5) *^ 2"},
		{sum(neg(a), b), "-a + b"},
		{sum(neg(neg(a)), neg(b)), "- -a + -b"},
		{of(api.ExSub, a, neg(b)), "a - -b"},
		{of(api.ExSub, neg(number(1)), neg(neg(number(1)))), "-1 - - -1"},
		{of(api.ExMul, neg(a), neg(b)), "-a * -b"},
		{call("f", neg(a)), "f(-a)"},
		{call("f", neg(neg(a)), neg(b)), "f(- -a, -b)"},
		{not(neg(a)), "not -a"},
		{neg(not(a)), "-(not a)"},
	} {
		wantExpr(t, x.e, x.want)
	}
}

// P5.1: what is made faster, slower and later.
func TestRates(t *testing.T) {
	x, y := variable("x"), variable("y")
	for _, c := range []struct {
		e    api.Expr
		want string
	}{
		{up(x, 1), "x *^ 1"},
		{down(x, math.MaxInt64), "x /^ 9223372036854775807"},
		{late(x, 0, 1), "x ~> 0/1"},
		{late(x, math.MaxInt64, math.MaxInt64), "x ~> 9223372036854775807/9223372036854775807"},
		{late(x, 2, 4), "x ~> 2/4"},
		{up(late(x, 1, 2), 3), "x ~> 1/2 *^ 3"},
		{late(up(x, 3), 1, 2), "x *^ 3 ~> 1/2"},
		{late(late(x, 1, 2), 3, 4), "x ~> 1/2 ~> 3/4"},
		{down(up(late(x, 1, 2), 3), 4), "x ~> 1/2 *^ 3 /^ 4"},
		{of(api.ExDiv, late(x, 1, 2), late(y, 3, 4)), "x ~> 1/2 / y ~> 3/4"},
		{of(api.ExDiv, of(api.ExDiv, late(x, 1, 2), number(3)), number(4)), "x ~> 1/2 / 3 / 4"},
		{late(of(api.ExDiv, x, y), 1, 2), "(x / y) ~> 1/2"},
		{up(number(5), 2), "5 *^ 2"},
		{up(truth(0), 2), "false *^ 2"},
		{up(call("f", x), 2), "f(x) *^ 2"},
		{up(tail(x), 2), "(tail x) *^ 2"},
		{tail(up(x, 2)), "tail x *^ 2"},
		{tail(tail(x)), "tail tail x"},
		{up(choice(x, x, x), 2), "(if x then x else x) *^ 2"},
	} {
		wantExpr(t, c.e, c.want)
	}
}

// P5.1: if within if; fby and :: within each other; and, or, not.
func TestWeakKinds(t *testing.T) {
	a, b, c, d, e := variable("a"), variable("b"), variable("c"), variable("d"), variable("e")
	if1 := choice(a, b, c)
	and := func(a, b api.Expr) api.Expr { return of(api.ExAnd, a, b) }
	or := func(a, b api.Expr) api.Expr { return of(api.ExOr, a, b) }
	for _, x := range []struct {
		e    api.Expr
		want string
	}{
		{choice(if1, d, e), "if if a then b else c then d else e"},
		{choice(d, if1, e), "if d then if a then b else c else e"},
		{choice(d, e, if1), "if d then e else if a then b else c"},
		{choice(a, b, fby(c, d)), "if a then b else c fby d"},
		{fby(choice(a, b, c), d), "(if a then b else c) fby d"},
		{fby(d, choice(a, b, c)), "d fby (if a then b else c)"},
		{fby(a, fby(b, c)), "a fby b fby c"},
		{fby(fby(a, b), c), "(a fby b) fby c"},
		{cons(a, cons(b, c)), "a :: b :: c"},
		{cons(cons(a, b), c), "(a :: b) :: c"},
		{fby(a, cons(b, c)), "a fby b :: c"},
		{fby(cons(a, b), c), "(a :: b) fby c"},
		{cons(a, fby(b, c)), "a :: b fby c"},
		{cons(fby(a, b), c), "(a fby b) :: c"},
		{fby(or(a, b), or(c, d)), "a or b fby c or d"},
		{or(fby(a, b), c), "(a fby b) or c"},
		{or(or(a, b), c), "a or b or c"},
		{or(a, or(b, c)), "a or (b or c)"},
		{and(and(a, b), c), "a and b and c"},
		{and(a, and(b, c)), "a and (b and c)"},
		{and(or(a, b), or(c, d)), "(a or b) and (c or d)"},
		{or(and(a, b), and(c, d)), "a and b or c and d"},
		{and(not(a), not(b)), "not a and not b"},
		{not(not(a)), "not not a"},
		{not(or(a, b)), "not (a or b)"},
		{of(api.ExEq, not(a), not(b)), "(not a) = (not b)"},
		{of(api.ExLt, of(api.ExLt, a, b), c), "(a < b) < c"},
		{of(api.ExLt, a, of(api.ExGe, b, c)), "a < (b >= c)"},
		{of(api.ExEq, sum(a, b), sum(c, d)), "a + b = c + d"},
	} {
		wantExpr(t, x.e, x.want)
	}
}

// P5.1: calls, names, numbers, truths.
func TestCallsAndLeaves(t *testing.T) {
	long := strings.Repeat("n", api.MaxName)
	a, b, c := variable("a"), variable("b"), variable("c")
	many := call("f")
	var texts []string
	for i := range api.MaxArgs {
		many.Args = append(many.Args, number(int64(i)))
		texts = append(texts, strconv.Itoa(i))
	}
	for _, x := range []struct {
		e    api.Expr
		want string
	}{
		{variable("_"), "_"},
		{variable(long), long},
		{number(0), "0"},
		{number(10), "10"},
		{number(math.MaxInt64), "9223372036854775807"},
		{truth(0), "false"},
		{truth(1), "true"},
		{call("f", a), "f(a)"},
		{call("f", a, b, c), "f(a, b, c)"},
		{call("f", call("g", a), call("h", b, c)), "f(g(a), h(b, c))"},
		{call("f", choice(a, b, c), fby(a, b)), "f(if a then b else c, a fby b)"},
		{call(long, a), long + "(a)"},
		{many, "f(" + strings.Join(texts, ", ") + ")"},
		{api.Expr{Kind: api.ExVar, Name: "a", At: -7, Args: []api.Expr{}}, "a"},
	} {
		wantExpr(t, x.e, x.want)
	}
}

// chain is an expression of that depth, of one Arg each.
func chain(depth int) api.Expr {
	e := variable("x")
	for range depth - 1 {
		e = tail(e)
	}
	return e
}

// wide is an expression of that size, of depth 4 at most, its leaves all of that name.
func wide(size int, name string) api.Expr {
	if size == 1 {
		return variable(name)
	}
	rest := size - 1
	args := min(rest, api.MaxArgs)
	e := call("f")
	for i := range args {
		e.Args = append(e.Args, wide((rest+i)/args, name))
	}
	return e
}

// lengthen makes names of e's leaves longer by so many bytes in all, as far as they may be.
func lengthen(e *api.Expr, more int) (left int) {
	if len(e.Args) == 0 {
		add := min(more, api.MaxName-len(e.Name))
		e.Name += strings.Repeat("n", add)
		return more - add
	}
	for i := range e.Args {
		more = lengthen(&e.Args[i], more)
	}
	return more
}

// longExpr is an expression whose text has so many bytes.
func longExpr(t *testing.T, bytes int) api.Expr {
	e := wide(3000, "n")
	text, no := Expr(e)
	if no != api.OK || lengthen(&e, bytes-len(text)) != 0 {
		t.Fatalf("no expression of %d bytes, %v", bytes, no)
	}
	return e
}

// P5.1: texts as long as may be, and longer.
func TestExprLong(t *testing.T) {
	for _, less := range []int{2, 1, 0} {
		text, no := Expr(longExpr(t, api.MaxSource-less))
		if no != api.OK || len(text) != api.MaxSource-less {
			t.Errorf("%d bytes, %v", len(text), no)
		}
	}
	for _, more := range []int{1, 2, 1000} {
		wantNoExpr(t, "too long", longExpr(t, api.MaxSource+more), api.ErrLong)
	}
}

// P5.1: each error of layer 4, and those ahead of ErrLong.
func TestExprErrors(t *testing.T) {
	name := strings.Repeat("n", api.MaxName)
	long := longExpr(t, api.MaxSource+1)
	wantNoExpr(t, "as deep as may be, and too long", sum(chain(api.MaxDepth-1), long), api.ErrLong)
	wantExpr(t, chain(api.MaxDepth), strings.Repeat("tail ", api.MaxDepth-1)+"x")
	wantNoExpr(t, "too deep", chain(api.MaxDepth+1), api.ErrDeep)
	wantNoExpr(t, "too deep by far", chain(1<<20), api.ErrDeep)
	wantNoExpr(t, "too deep and too long", sum(long, chain(api.MaxDepth)), api.ErrDeep)
	wantNoExpr(t, "none", api.Expr{}, api.ErrShape)
	wantNoExpr(t, "none, and too long", sum(long, api.Expr{}), api.ErrShape)
	wantNoExpr(t, "none, too deep, too great, too long", call("f", wide(api.MaxSize, name), chain(api.MaxDepth), api.Expr{}), api.ErrShape)
	wantNoExpr(t, "too deep, too great, too long", sum(wide(api.MaxSize, name), chain(api.MaxDepth)), api.ErrDeep)
	wantNoExpr(t, "too great", wide(api.MaxSize+1, "x"), api.ErrBig)
	wantNoExpr(t, "too great and too long", wide(api.MaxSize+1, name), api.ErrBig)
	wantNoExpr(t, "as great as may be, and too long", wide(api.MaxSize, name), api.ErrLong)
	if text, no := Expr(wide(api.MaxSize, "x")); no != api.OK || strings.Count(text, "x") < api.MaxSize/2 {
		t.Errorf("as great as may be: %d bytes, %v", len(text), no)
	}
	for _, wrong := range []api.Expr{
		number(-1), truth(2), truth(-1), variable(""), variable("if"), variable("a b"), variable(name + "n"),
		call("f"), call("fby", number(1)), call("f", repeat(api.MaxArgs+1, number(1))...),
		of(api.ExNeg), of(api.ExNeg, number(1), number(1)), of(api.ExAdd, number(1)), of(api.ExFby), of(api.ExIf, number(1), number(1)),
		up(number(1), 0), down(number(1), -1), late(number(1), -1, 1), late(number(1), 1, 0),
		{Kind: api.ExLate + 1}, {Kind: 255}, {Kind: api.ExVar, Name: "a", Int: 1}, {Kind: api.ExInt, Name: "a"},
		{Kind: api.ExUp, Int: 1, Den: 1, Args: []api.Expr{number(1)}},
	} {
		wantNoExpr(t, "what may not be", wrong, api.ErrShape)
		wantNoExpr(t, "within", sum(number(1), not(wrong)), api.ErrShape)
	}
}

// R5: the answer is new memory, and what is handed in is left as it is.
func TestExprOwnMemory(t *testing.T) {
	name := strings.Repeat("n", 9)
	text, _ := Expr(variable(name))
	if text != name || unsafe.StringData(text) == unsafe.StringData(name) {
		t.Errorf("%q shares memory with a name", text)
	}
	e := longExpr(t, 50000)
	before := tree.Copy(e)
	if _, no := Expr(e); no != api.OK || !tree.Same(e, before) {
		t.Error("changed what was handed in")
	}
}
