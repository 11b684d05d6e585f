package parse

import (
	"errors"
	"slices"
	"strings"
	"testing"

	"carillon/api"
)

// nest is what opens one thing: what stands ahead of what is in it, where in that the token is that opens it, and what stands behind.
type nest struct {
	what   string
	ahead  string
	opener int
	behind string
	deep   bool // it makes a tree deeper
}

func nests() []nest {
	return []nest{
		{"a parenthesis", "( ", 0, ")", false},
		{"a call", "f( ", 1, ")", true},
		{"a later Arg of a call", "f(x, y, ", 1, ")", true},
		{"the first part of an if", "if ", 0, " then x else y", true},
		{"the second part of an if", "if x then ", 0, " else y", true},
		{"the third part of an if", "if x then y else ", 0, "", true},
		{"not", "not ", 0, "", true},
		{"-", "- ", 0, "", true},
		{"tail", "tail ", 0, "", true},
		{"fby", "x fby ", 2, "", true},
		{"::", "x :: ", 2, "", true},
		{"a parenthesis behind signs", "a or b and c = d + e * ( ", 23, ")", true},
	}
}

// wantOpen asks that a source is not refused for what is open, nor for its grammar.
func wantOpen(t *testing.T, what, src string) {
	t.Helper()
	if err := readExpr(src); err != nil && !errors.Is(err, api.ErrDeep) {
		t.Errorf("%s: %v", what, err)
	}
}

// in is a source with so many of n around x.
func (n nest) in(count int, x string) string {
	return strings.Repeat(n.ahead, count) + x + strings.Repeat(n.behind, count)
}

// P6.1: MaxOpen of each kind of what opens, and one more.
func TestOpen(t *testing.T) {
	for _, n := range nests() {
		most := n.in(api.MaxOpen, "x")
		wantOpen(t, n.what, most)
		if n.deep {
			wantFault(t, most, len(most), api.ErrDeep)
		} else {
			wantTree(t, most, "x")
		}
		at := len(n.ahead)*api.MaxOpen + n.opener
		for _, more := range []int{1, 2, 500} {
			wantFault(t, n.in(api.MaxOpen+more, "x"), at, api.ErrOpen)
		}
		// Nothing that stands behind counts, be it wanting or wrong.
		wantFault(t, strings.Repeat(n.ahead, api.MaxOpen+1), at, api.ErrOpen)
		wantFault(t, strings.Repeat(n.ahead, api.MaxOpen)+n.ahead[:n.opener+strings.IndexAny(n.ahead[n.opener:]+" ", " ")], at, api.ErrOpen)
		wantFault(t, strings.Repeat(n.ahead, api.MaxOpen+1)+") ) ;", at, api.ErrOpen)
	}
}

// P6.1: MaxOpen in an equation of a program; in each equation again; parentheses of lists do not count.
func TestOpenInProgram(t *testing.T) {
	for _, n := range nests() {
		eq := "(a, b) = " + n.in(api.MaxOpen, "x") + ";"
		src, at := inNode("flow", "i: int rate (1, 0)", "o: int due 2", "var v: int;", eq+eq)
		if n.deep {
			wantBadProgram(t, src, len(src), api.ErrDeep)
		} else if _, err := Program(src); err != nil {
			t.Errorf("%s: %v", n.what, err)
		}
		last := "(a, b) = " + n.in(api.MaxOpen+1, "x") + ";"
		src, at = inNode("flow", "i: int rate (1, 0)", "o: int due 2", "var v: int;", eq+last)
		wantBadProgram(t, src, at[3]+len(eq)+9+len(n.ahead)*api.MaxOpen+n.opener, api.ErrOpen)
	}
}

// within is whether what inner begins may stand in outer without parentheses.
func within(outer, inner nest) bool {
	tight := map[string]int{"not": 4, "-": 8, "tail": 8, "fby": 1, "::": 1}
	loose := map[string]int{"fby": 1, "::": 1, "not": 4, "-": 8, "tail": 8, "a parenthesis behind signs": 2}
	holds, is := loose[inner.what]
	if strings.Contains(inner.what, "of an if") {
		holds, is = 0, true
	}
	return !is || holds >= tight[outer.what]
}

// P6.1: MaxOpen of two kinds, in each other by turns, and one behind the other.
func TestOpenMixed(t *testing.T) {
	checked := 0
	for _, outer := range nests() {
		for _, inner := range nests() {
			if !within(outer, inner) {
				continue
			}
			half := api.MaxOpen / 2
			wantOpen(t, outer.what+" around "+inner.what, outer.in(half, inner.in(half, "x")))
			at := len(outer.ahead)*half + len(inner.ahead)*half + inner.opener
			wantFault(t, outer.in(half, inner.in(half+1, "x")), at, api.ErrOpen)
			if !within(inner, outer) {
				continue
			}
			both := nest{ahead: outer.ahead + inner.ahead, behind: inner.behind + outer.behind}
			wantOpen(t, outer.what+", "+inner.what+" by turns", both.in(half, "x"))
			at = len(both.ahead)*half + outer.opener
			wantFault(t, both.in(half, outer.in(1, "x")), at, api.ErrOpen)
			wantFault(t, both.in(half+1, "x"), at, api.ErrOpen)
			checked++
		}
	}
	if checked < 80 {
		t.Errorf("but %d pairs", checked)
	}
}

// P6.1: what is ended does not count: as much may be open behind it, in what is open around both.
func TestOpenAgain(t *testing.T) {
	for _, n := range nests() {
		for _, around := range nests() {
			open := api.MaxOpen - 3
			part := "(" + n.in(open, "x") + ")"
			both := part + " + " + part
			wantOpen(t, n.what, "("+both+")")
			wantOpen(t, n.what, "f("+part+", "+both+")")
			wantOpen(t, n.what, "if "+part+" then "+part+" else "+part)
			wantOpen(t, n.what+" in "+around.what, around.in(1, "("+both+")"))
			// Two are open around the last part: the first parenthesis, and its own.
			over := "(" + both + " + (" + n.in(open+2, "x") + "))"
			wantFault(t, over, len("("+both+" + (")+(api.MaxOpen-2)*len(n.ahead)+n.opener, api.ErrOpen)
		}
	}
}

// P6.1: what ends by itself, without a parenthesis: each that opens, many times one behind the other.
func TestOpenEndsByItself(t *testing.T) {
	many := func(one, between string) string {
		return one + strings.Repeat(between+one, 3*api.MaxOpen)
	}
	for _, src := range []string{
		many("not a", " and "), many("not a", " or "), many("not a = b", " and "),
		many("- a", " + "), many("- a", " * "), many("- a *^ 2", " - "),
		many("tail a", " + "), many("tail a", " / "), many("tail a ~> 1 / 2", " % "),
		many("(a)", " + "), many("f(a)", " + "), many("f(a, b)", " or "),
		many("(a fby b)", " + "), many("(a :: b)", " + "), many("(if a then b else c)", " + "),
		many("(a)", " and "), "a" + strings.Repeat(" *^ 2", 3*api.MaxOpen), "a" + strings.Repeat(" ~> 1", 3*api.MaxOpen),
	} {
		wantFault(t, src, len(src), api.ErrDeep)
	}
	for _, one := range []string{"a fby b", "a :: b", "if a then b else c", "not a", "-a", "tail a", "(a)", "f(a)"} {
		src := "f(" + many(one, ", ") + ")"
		wantFault(t, src, len(src), api.ErrShape)
	}
	// The left part of fby and :: is ended at them.
	for _, s := range []string{" fby ", " :: "} {
		for left, opener := range map[string]int{"- a": 0, "tail a": 0, "not a": 0, "(a)": 0, "f(a)": 1} {
			src := strings.Repeat("(", api.MaxOpen-1) + left + s
			wantFault(t, src, len(src), api.ErrSyntax)
			wantFault(t, src+left, len(src)+opener, api.ErrOpen)
		}
	}
}

// P6.1: with MaxOpen open, each token: that it may not stand there is told ahead of that it opens something.
func TestSyntaxAheadOfOpen(t *testing.T) {
	r := newRecognizer(readRules(), "Expr")
	for _, n := range nests() {
		if n.behind == "" && !strings.Contains(n.what, "if") {
			continue // a name ends it
		}
		full, less := strings.Repeat(n.ahead, api.MaxOpen), strings.Repeat(n.ahead, api.MaxOpen-1)
		checkNext(t, r, full, "( if not - tail")
		checkNext(t, r, full+"x ", "( fby ::")
		checkNext(t, r, full+"7 ", "fby ::")
		checkNext(t, r, less+"(x) ", "")
		checkNext(t, r, less+"( x ) fby ", "( if not - tail")
	}
	for _, c := range []struct{ ahead, next string }{
		{"- ", "not"}, {"- ", "if"}, {"tail ", "not"}, {"tail ", "if"}, {"not ", "if"}, {"x fby ", "if"}, {"x :: ", "if"},
		{"( ", "fby"}, {"( ", "::"}, {"f( ", "fby"}, {"if ", "::"}, {"- ", "fby"}, {"not ", "::"}, {"x fby ", "::"},
	} {
		src := strings.Repeat(c.ahead, api.MaxOpen)
		wantFault(t, src+c.next, len(src), api.ErrSyntax)
		wantFault(t, src+c.next+" x", len(src), api.ErrSyntax)
	}
	src := strings.Repeat("( ", api.MaxOpen) + "7 "
	wantFault(t, src+"(", len(src), api.ErrSyntax)
	wantFault(t, src+"not", len(src), api.ErrSyntax)
	src = strings.Repeat("- ", api.MaxOpen) + "x "
	wantFault(t, src+"(", len(src), api.ErrOpen)
	wantFault(t, src+"fby", len(src)+3, api.ErrSyntax)
}

// checkNext tries each token behind start, where those that may stand there and are among opening open one more than may be.
func checkNext(t *testing.T, r *recognizer, start, opening string) {
	t.Helper()
	r.back(0)
	ahead := lexed(t, start)
	ahead = ahead[:len(ahead)-1]
	if r.first(ahead) >= 0 {
		t.Fatalf("%s may not be", short(start))
	}
	for _, next := range everyToken() {
		r.back(len(ahead))
		switch {
		case !r.may(lexed(t, next)[0]):
			wantFault(t, start+next, len(start), api.ErrSyntax)
		case slices.Contains(strings.Fields(opening), next):
			wantFault(t, start+next, len(start), api.ErrOpen)
		default:
			if err := readExpr(start + next); errors.Is(err, api.ErrOpen) {
				t.Errorf("%s%s: %v", short(start), next, err)
			}
		}
	}
}
