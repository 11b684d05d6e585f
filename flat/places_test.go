package flat

import (
	"strings"
	"testing"

	"carillon/api"
)

// marked is the program of src without its marks, each an @ and a letter ahead of what it marks, and what tells the letters of places.
func marked(t *testing.T, src string) (api.Program, func(at int) string) {
	t.Helper()
	letters := make(map[int]string)
	parts := strings.Split(src, "@")
	plain := parts[0]
	for _, part := range parts[1:] {
		letters[len(plain)] = part[:1]
		plain += strings.TrimPrefix(part[1:], " ")
	}
	return program(t, plain), func(at int) string {
		if letter, is := letters[at]; is {
			return letter
		}
		return "?"
	}
}

// chainPlaces has the place of the chain, and of its links.
func chainPlaces(c api.Chain, letter func(at int) string) string {
	text := letter(c.At)
	for _, l := range c.Links {
		text += "-" + letter(l.At)
	}
	return text
}

// exprPlaces has the places of e and its Args, e ahead.
func exprPlaces(e api.Expr, letter func(at int) string) string {
	text := letter(e.At)
	for _, arg := range e.Args {
		text += exprPlaces(arg, letter)
	}
	return text
}

// wantPlaces asks for all places of what src is flattened to: of variables; calls and their Args; copies; outputs and what they are; expressions of bodies.
func wantPlaces(t *testing.T, src string, want ...string) {
	t.Helper()
	p, letter := marked(t, src)
	f := flattened(t, p)
	got := make([]string, 5)
	for _, v := range f.Vars {
		got[0] += letter(v.At)
	}
	for _, c := range f.Calls {
		got[1] += letter(c.At) + "("
		for i, arg := range c.Args {
			if i > 0 {
				got[1] += " "
			}
			got[1] += chainPlaces(arg, letter)
		}
		got[1] += ")"
	}
	for _, c := range f.Copies {
		got[2] += " " + chainPlaces(c.From, letter)
	}
	for _, o := range f.Outs {
		got[3] += " " + letter(o.At) + chainPlaces(o.From, letter)
	}
	for _, b := range f.Bodies {
		for _, q := range b.Eqs {
			got[4] += " " + exprPlaces(q.E, letter)
		}
	}
	for i, what := range []string{"variables", "calls", "copies", "outputs", "bodies"} {
		if text := strings.TrimSpace(got[i]); text != want[i] {
			t.Errorf("%s: %s at %q, not %q", src, what, text, want[i])
		}
	}
}

// P8.1: the places of variables, calls, links, chains and outputs.
func TestPlaces(t *testing.T) {
	wantPlaces(t, "node f(x: int; z: int) returns (y: int) let y = @q 1; tel flow m(@a i: int rate (6, 0); @b j: int rate (6, 0)) returns (@c o: int; @d p: int) var @e v: int; let o = @f f(@g 0 fby i, @h j *^ 2 ~> 1/2); p = @k tail @l f(@m i, @n 1 :: tail v); v = @r i; tel",
		"abcdel", "f(g-g h-h-h)l(m n-?-n)", "k-k r", "cc dd", "q")
	// An operator's place is that of its first part; where it stands alone, its own.
	wantPlaces(t, "flow m(@a i: int rate (6, 0)) returns (@b o: int) let o = @c tail @d tail (@e i /^ 2); tel",
		"ab", "", "c-e-d-c", "bb", "")
	// A flow's variables have its params' places; what an equation has of a flow, the call's.
	wantPlaces(t, "flow s(@a x: int; @b y: int) returns (@c p: int; @d q: int) var @e r: int; let r = @f x; p = @g tail r; q = @h y; tel "+
		"flow m(@i i: int rate (6, 0)) returns (@j o: int) var @k v: int; let (o, v) = @l s(@m i /^ 2, @n 1 fby @o i); tel",
		"ijkabcde", "", "m-m n-n f g-g h l l", "jj", "")
	wantPlaces(t, "flow s(@a x: int) returns (@b p: int) let p = @c x; tel flow m(@i i: int rate (6, 0)) returns (@j o: int) let o = @k tail @l s(@m s(@n i)); tel",
		"ijabab", "", "n c m c k-k", "jj", "")
}

// P8.1: expressions of bodies have their own places; what stands for a call has the call's.
func TestBodyPlaces(t *testing.T) {
	wantPlaces(t, "node g(x: int; w: int) returns (y: int) let y = @a x * @b w; tel node h(x: int) returns (y: int; z: int) let y = @e x; z = @f 7; tel "+
		"node f(x: int) returns (y: int) var u: int; v: int; let y = @g g(@i x + @j 1, @k u) + @l - @m v; (u, v) = @n h(@o x); tel "+
		"flow m(@p i: int rate (6, 0)) returns (@q o: int) let o = @r f(@s i); tel",
		"pq", "r(s)", "", "qq", "iij o e f n k aab n gglm")
}
