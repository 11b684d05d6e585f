package parse

import (
	"errors"
	"math/rand"
	"slices"
	"strconv"
	"strings"
	"testing"

	"carillon/api"
	"carillon/lex"
	"carillon/show"
	"carillon/tree"
)

// shape is how a kind is written: how strongly it holds; its tokens, # with how strongly an Arg must hold there; + ahead of what opens, which ends behind the next Args.
type shape struct {
	holds int
	text  string
}

func shapes() [api.ExLate + 1]shape {
	return [api.ExLate + 1]shape{
		api.ExNeg: {8, "+- #8"}, api.ExTail: {8, "+tail #8"}, api.ExNot: {4, "+not #4"},
		api.ExAdd: {6, "#6 + #7"}, api.ExSub: {6, "#6 - #7"},
		api.ExMul: {7, "#7 * #8"}, api.ExDiv: {7, "#7 / #8"}, api.ExMod: {7, "#7 % #8"},
		api.ExEq: {5, "#6 = #6"}, api.ExNe: {5, "#6 <> #6"}, api.ExLt: {5, "#6 < #6"},
		api.ExLe: {5, "#6 <= #6"}, api.ExGt: {5, "#6 > #6"}, api.ExGe: {5, "#6 >= #6"},
		api.ExAnd: {3, "#3 and #4"}, api.ExOr: {2, "#2 or #3"},
		api.ExFby: {1, "#2 +fby #1"}, api.ExCons: {1, "#2 +:: #1"},
		api.ExIf: {0, "+if #0 then #0 else #0"},
		api.ExUp: {9, "#9 *^ INT"}, api.ExDown: {9, "#9 /^ INT"}, api.ExLate: {9, "#9 ~> INT / DEN"},
		api.ExVar: {10, "NAME"}, api.ExInt: {10, "INT"}, api.ExBool: {10, "TRUTH"}, api.ExCall: {10, "NAME +( ARGS )"},
	}
}

// writer writes trees as tokens, with more parentheses than are needed, and tells how much is open at each token that opens something.
type writer struct {
	chance *rand.Rand
	more   int // parentheses that are put around an expression beside those that are needed, at most
	texts  []string
	open   int
	opens  map[int]int
}

func (w *writer) put(text string) {
	w.texts = append(w.texts, text)
}

func (w *writer) enter(text string) {
	w.open++
	w.opens[len(w.texts)] = w.open
	w.put(text)
}

// write writes e where what is there must hold so strongly; its places become numbers of tokens.
func (w *writer) write(e *api.Expr, least int) {
	around := 0
	if w.chance.Intn(4) == 0 {
		around = w.chance.Intn(w.more + 1)
	}
	s := shapes()[e.Kind]
	if s.holds < least {
		around++
	}
	for range around {
		w.enter("(")
	}
	first, open := len(w.texts), w.open
	words := strings.Fields(s.text)
	if around > 0 && e.Kind == api.ExLate && e.Den == 1 {
		words = words[:3] // / 1 may be left out, if no / follows
	}
	left := e.Args
	for _, word := range words {
		left = w.word(e, word, left)
	}
	w.open = open
	e.At = first
	if len(e.Args) > 0 && s.text[0] == '#' {
		e.At = e.Args[0].At
	}
	for range around {
		w.put(")")
		w.open--
	}
}

// word writes one word of e's shape, and answers which Args are left.
func (w *writer) word(e *api.Expr, word string, left []api.Expr) []api.Expr {
	switch {
	case word[0] == '#':
		w.write(&left[0], int(word[1]-'0'))
		return left[1:]
	case len(word) > 1 && word[0] == '+':
		w.enter(word[1:])
	case word == "NAME":
		w.put(e.Name)
	case word == "INT":
		w.put(strconv.FormatInt(e.Int, 10))
	case word == "DEN":
		w.put(strconv.FormatInt(e.Den, 10))
	case word == "TRUTH":
		w.put(strconv.FormatBool(e.Int == 1))
	case word == "ARGS":
		for i := range left {
			if i > 0 {
				w.put(",")
			}
			w.write(&left[i], 0)
		}
	default:
		w.put(word)
	}
	return left
}

// glued is whether two tokens are the same two with nothing between.
func glued(a, b string) bool {
	tokens, err := lex.Tokens(a + b)
	return err == nil && len(tokens) == 3 && tokens[0].Text == a && tokens[1].Text == b
}

// laid is tokens with blanks and remarks by chance, and the place of each one.
func laid(chance *rand.Rand, texts []string) (src string, places []int) {
	gaps := []string{" ", "", "\n", "\t \r", "--\n", " -- ( if &\n"}
	for i, text := range texts {
		gap := gaps[chance.Intn(len(gaps))]
		if gap == "" && i > 0 && !glued(texts[i-1], text) {
			gap = " "
		}
		// A remark's hyphens behind a hyphen would be parts of one.
		if i > 0 && texts[i-1] == "-" && strings.HasPrefix(gap, "-") {
			gap = " " + gap
		}
		src += gap
		places = append(places, len(src))
		src += text
	}
	return src + gaps[chance.Intn(len(gaps)-2)], places
}

// grow is a tree by chance, of that depth at most.
func grow(chance *rand.Rand, depth int) api.Expr {
	e := api.Expr{Kind: uint8(1 + chance.Intn(int(api.ExLate)))}
	if depth == 1 {
		e.Kind = api.ExVar + uint8(chance.Intn(3))
	}
	args := strings.Count(shapes()[e.Kind].text, "#")
	switch e.Kind {
	case api.ExVar:
		e.Name = []string{"x", "_", "notes", "f1"}[chance.Intn(4)]
	case api.ExInt:
		e.Int = chance.Int63() >> chance.Intn(64)
	case api.ExBool:
		e.Int = int64(chance.Intn(2))
	case api.ExCall:
		e.Name = "f"
		args = 1 + chance.Intn(4)
	case api.ExUp, api.ExDown:
		e.Int = 1 + chance.Int63()>>(1+chance.Intn(63))
	case api.ExLate:
		e.Int, e.Den = int64(chance.Intn(3)), int64(1+chance.Intn(3))
	}
	for range args {
		e.Args = append(e.Args, grow(chance, depth-1))
	}
	return e
}

// place makes places of numbers of tokens.
func place(e *api.Expr, places []int) {
	e.At = places[e.At]
	for i := range e.Args {
		place(&e.Args[i], places)
	}
}

// P6.1: trees by chance, written with more parentheses and blanks than are needed, are read with the right places.
func TestMadeTrees(t *testing.T) {
	chance := rand.New(rand.NewSource(601))
	for range 3000 {
		e := grow(chance, 1+chance.Intn(6))
		w := &writer{chance: chance, more: 3, opens: map[int]int{}}
		w.write(&e, 0)
		src, places := laid(chance, w.texts)
		place(&e, places)
		wantPlaces(t, src, tell(e, true))
	}
}

// wrapped is tokens with so many parentheses around them.
func wrapped(texts []string, around int) []string {
	return slices.Concat(slices.Repeat([]string{"("}, around), texts, slices.Repeat([]string{")"}, around))
}

// P6.1: MaxOpen in trees by chance: as many more parentheses around them as may be, and one more.
func TestMadeOpen(t *testing.T) {
	chance := rand.New(rand.NewSource(602))
	for range 2000 {
		e := grow(chance, 1+chance.Intn(6))
		w := &writer{chance: chance, more: 20, opens: map[int]int{}}
		w.write(&e, 0)
		// The first token at which as much is open as anywhere; the parenthesis ahead of all, if none opens anything.
		most, first := 0, -1
		for at := range w.texts {
			if w.opens[at] > most {
				most, first = w.opens[at], at
			}
		}
		if most > api.MaxOpen {
			continue
		}
		around := api.MaxOpen - most
		src := strings.Join(wrapped(w.texts, around), " ")
		got, err := Expr(src)
		if err != nil || !tree.Same(got, e) {
			t.Fatalf("%s: %v", src, err)
		}
		texts := wrapped(w.texts, around+1)
		ahead := strings.Join(texts[:around+1+first], " ") + " "
		wantFault(t, strings.Join(texts, " "), len(ahead), api.ErrOpen)
	}
}

// wantAgain asks that what is shown is read as the same.
func wantAgain(t *testing.T, e api.Expr) {
	t.Helper()
	text, no := show.Expr(e)
	got, err := Expr(text)
	if no != api.OK || err != nil || !tree.Same(got, e) {
		t.Fatalf("%q, %v: %s, %v", text, no, tell(got, false), err)
	}
	if again, _ := show.Expr(got); again != text {
		t.Fatalf("%q, then %q", text, again)
	}
}

// of is an expression of that kind, its Args x, but for one.
func of(kind uint8, at int, inner api.Expr) api.Expr {
	e := api.Expr{Kind: kind}
	args := strings.Count(shapes()[kind].text, "#")
	switch kind {
	case api.ExVar:
		e.Name = "y"
	case api.ExCall:
		e.Name, args = "f", 2
	case api.ExUp, api.ExDown:
		e.Int = 2
	case api.ExLate:
		e.Int, e.Den = 3, 4
	}
	for i := range args {
		e.Args = append(e.Args, api.Expr{Kind: api.ExVar, Name: "x"})
		if i == at {
			e.Args[i] = inner
		}
	}
	return e
}

// P6.2: every kind within every kind within every kind.
func TestShownKinds(t *testing.T) {
	for outer := api.ExVar; outer <= api.ExLate; outer++ {
		leaf := of(outer, -1, api.Expr{})
		wantAgain(t, leaf)
		for i := range leaf.Args {
			for inner := api.ExVar; inner <= api.ExLate; inner++ {
				middle := of(inner, -1, api.Expr{})
				wantAgain(t, of(outer, i, middle))
				for j := range middle.Args {
					for last := api.ExVar; last <= api.ExLate; last++ {
						wantAgain(t, of(outer, i, of(inner, j, of(last, -1, api.Expr{}))))
					}
				}
			}
		}
	}
}

// P6.2: trees by chance; and those as deep as may be, of each kind, at each place, and of all kinds.
func TestShownTrees(t *testing.T) {
	chance := rand.New(rand.NewSource(603))
	for range 3000 {
		wantAgain(t, grow(chance, 1+chance.Intn(6)))
	}
	leaf := of(api.ExVar, -1, api.Expr{})
	for kind := api.ExCall; kind <= api.ExLate; kind++ {
		for at := range of(kind, -1, leaf).Args {
			e, mixed := leaf, leaf
			for range api.MaxDepth - 1 {
				e = of(kind, at, e)
				other := api.ExCall + uint8(chance.Intn(int(api.ExLate-api.ExCall)+1))
				mixed = of(other, chance.Intn(len(of(other, -1, leaf).Args)), mixed)
			}
			wantAgain(t, e)
			wantAgain(t, mixed)
		}
	}
}

// P6.2: what is read, and shown, is read as the same.
func TestReadShownRead(t *testing.T) {
	chance := rand.New(rand.NewSource(604))
	exprs, programs := newRecognizer(readRules(), "Expr"), newRecognizer(readRules(), "Program")
	read := 0
	for range 1000 {
		if e, err := Expr(walk(chance, exprs, 1+chance.Intn(20))); err == nil {
			wantAgain(t, e)
			read++
		}
		if p, err := Program(walk(chance, programs, 1+chance.Intn(60))); err == nil {
			wantProgramAgain(t, p)
			read++
		}
	}
	if read < 100 {
		t.Errorf("but %d read", read)
	}
}

func wantProgramAgain(t *testing.T, p api.Program) {
	t.Helper()
	text, no := show.Program(p)
	got, err := Program(text)
	if no != api.OK || err != nil || !tree.SameProgram(got, p) {
		t.Fatalf("%q, %v: %s, %v", text, no, tellProgram(got, false), err)
	}
	if again, _ := show.Program(got); again != text {
		t.Fatalf("%q, then %q", text, again)
	}
}

// growParams is params by chance, with rates, or deadlines, where they may be.
func growParams(chance *rand.Rand, rates, dues bool) (list []api.Param) {
	for range chance.Intn(4) {
		p := api.Param{Name: []string{"a", "b", "due1"}[chance.Intn(3)], Type: api.TInt + uint8(chance.Intn(2))}
		if rates && chance.Intn(2) == 0 {
			p.Rate, p.Period, p.Start = true, 1+int64(chance.Intn(9)), int64(chance.Intn(3))
		}
		if dues && chance.Intn(2) == 0 {
			p.Due = 1 + int64(chance.Intn(9))
		}
		list = append(list, p)
	}
	return list
}

func growProgram(chance *rand.Rand) (p api.Program) {
	for range chance.Intn(4) {
		n := api.Node{Name: "n", Flow: chance.Intn(2) == 0}
		n.Ins, n.Outs, n.Vars = growParams(chance, n.Flow, false), growParams(chance, false, n.Flow), growParams(chance, false, false)
		for range chance.Intn(4) {
			names := [][]string{{"a"}, {"a", "b"}, {"c", "c", "c"}}[chance.Intn(3)]
			n.Eqs = append(n.Eqs, api.Eq{Names: names, E: grow(chance, 1+chance.Intn(4))})
		}
		p.Nodes = append(p.Nodes, n)
	}
	return p
}

// P6.2: programs by chance.
func TestShownPrograms(t *testing.T) {
	chance := rand.New(rand.NewSource(605))
	p, err := Program(sample)
	if err != nil {
		t.Fatal(err)
	}
	wantProgramAgain(t, p)
	for range 2000 {
		wantProgramAgain(t, growProgram(chance))
	}
}

// P6.2: what is shown may have too many tokens; that is told as lex tells it.
func TestShownTooLong(t *testing.T) {
	params := slices.Repeat([]api.Param{{Name: "p", Type: api.TInt}}, api.MaxParams)
	p := api.Program{Nodes: slices.Repeat([]api.Node{{Name: "n", Ins: params, Outs: params, Vars: params}}, api.MaxNodes)}
	text, no := show.Program(p)
	if no != api.OK {
		t.Fatal(no)
	}
	_, wrong := lex.Tokens(text)
	var f api.Fault
	if !errors.As(wrong, &f) || f.Err != api.ErrFull {
		t.Fatal(wrong)
	}
	wantBadProgram(t, text, f.At, f.Err)
	p.Nodes = p.Nodes[:16]
	wantProgramAgain(t, p)
}

// P6.1: blanks and remarks between tokens change nothing but places, and these go with their tokens.
func TestBlanksInPrograms(t *testing.T) {
	chance := rand.New(rand.NewSource(606))
	for range 300 {
		text, _ := show.Program(growProgram(chance))
		tokens := lexed(t, text)
		var texts []string
		for _, token := range tokens[:len(tokens)-1] {
			texts = append(texts, token.Text)
		}
		src, places := laid(chance, texts)
		moved := map[int]int{}
		for i, at := range places {
			moved[tokens[i].At] = at
		}
		want, err := Program(text)
		if err != nil {
			t.Fatal(err)
		}
		moveProgram(&want, moved)
		got, err := Program(src)
		if err != nil || tellProgram(got, true) != tellProgram(want, true) {
			t.Fatalf("%q: %s, %v, not %s", src, tellProgram(got, true), err, tellProgram(want, true))
		}
	}
}

// moveProgram puts every place of p elsewhere.
func moveProgram(p *api.Program, moved map[int]int) {
	for i := range p.Nodes {
		n := &p.Nodes[i]
		n.At = moved[n.At]
		for _, list := range [][]api.Param{n.Ins, n.Outs, n.Vars} {
			for j := range list {
				list[j].At = moved[list[j].At]
			}
		}
		for j := range n.Eqs {
			n.Eqs[j].At = moved[n.Eqs[j].At]
			moveExpr(&n.Eqs[j].E, moved)
		}
	}
}

func moveExpr(e *api.Expr, moved map[int]int) {
	e.At = moved[e.At]
	for i := range e.Args {
		moveExpr(&e.Args[i], moved)
	}
}
