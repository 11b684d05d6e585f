package parse

import (
	"errors"
	"math/rand"
	"slices"
	"strings"
	"testing"

	"carillon/api"
	"carillon/lex"
)

// grammar is the chapter's: rules begin with great letters, and a word that no rule has is a token. OVER is a / behind ~> NUM, which is never the / of a term.
const grammar = `
Program = { Node }
Node = node NAME ( [ Params ] ) returns ( [ Params ] ) [ var Params ; ] let { Eq } tel
Node = flow NAME ( [ Ins ] ) returns ( [ Outs ] ) [ var Params ; ] let { Eq } tel
Params = Param { ; Param }
Param = NAME : Type
Ins = In { ; In }
In = Param [ rate ( POS , NUM ) ]
Outs = Out { ; Out }
Out = Param [ due POS ]
Type = int
Type = bool
Eq = Lhs = Expr ;
Lhs = NAME
Lhs = ( NAME { , NAME } )
Expr = if Expr then Expr else Expr
Expr = Later
Later = Or1 [ Lasts Later ]
Lasts = fby
Lasts = ::
Or1 = And1 { or And1 }
And1 = Not1 { and Not1 }
Not1 = not Not1
Not1 = Cmp
Cmp = Sum [ Cmps Sum ]
Cmps = =
Cmps = <>
Cmps = <
Cmps = <=
Cmps = >
Cmps = >=
Sum = Term { Sums Term }
Sums = +
Sums = -
Term = Unary { Terms Unary }
Terms = *
Terms = /
Terms = %
Unary = - Unary
Unary = tail Unary
Unary = Post
Post = Atom { Posts }
Posts = *^ POS
Posts = /^ POS
Posts = ~> NUM [ OVER POS ]
Atom = NUM
Atom = true
Atom = false
Atom = NAME [ ( Expr { , Expr } ) ]
Atom = ( Expr )
`

// rules has the right sides of each rule, with rules of their own for what stands in [ ] and { }.
type rules map[string][][]string

func readRules() rules {
	all := rules{}
	for _, line := range strings.Split(strings.TrimSpace(grammar), "\n") {
		words := strings.Fields(line)
		side, rest := all.side(words[0], words[2:])
		if len(rest) > 0 {
			panic("more than a side: " + line)
		}
		all[words[0]] = append(all[words[0]], side)
	}
	return all
}

// side is a right side up to the end, or up to what ends it, and what stands behind that.
func (g rules) side(name string, words []string) (side, rest []string) {
	for len(words) > 0 {
		word := words[0]
		words = words[1:]
		switch word {
		case "]", "}":
			return side, words
		case "[", "{":
			inner, behind := g.side(name, words)
			extra := name + "#" + strings.Join(words, "#")
			if word == "{" {
				inner = append(inner, extra)
			}
			g[extra] = [][]string{nil, inner}
			side, words = append(side, extra), behind
		default:
			side = append(side, word)
		}
	}
	return side, nil
}

// state is a right side of a rule, what of it is left, and behind how many tokens it began.
type state struct {
	rule  string
	side  int
	at    int
	begun int
}

// recognizer tells of tokens, one by one, whether they may stand there: it has all that could go on behind each.
type recognizer struct {
	g      rules
	sets   [][]state
	tokens []api.Token
}

func newRecognizer(g rules, start string) *recognizer {
	r := &recognizer{g: g}
	r.sets = append(r.sets, r.closed([]state{{rule: "", begun: 0}}, start))
	return r
}

// closed is a set with all that it asks, and all that it ends. The rule without a name is that of the start.
func (r *recognizer) closed(set []state, start string) []state {
	at := len(r.sets)
	if at == 0 {
		r.g = r.g.with(start)
	}
	has := map[state]bool{}
	for _, s := range set {
		has[s] = true
	}
	add := func(s state) {
		if !has[s] {
			has[s] = true
			set = append(set, s)
		}
	}
	for i := 0; i < len(set); i++ {
		s := set[i]
		next, some := r.next(s)
		if !some {
			waiting := set
			if s.begun < at {
				waiting = r.sets[s.begun]
			}
			for _, w := range waiting {
				if asked, some := r.next(w); some && asked == s.rule {
					w.at++
					add(w)
				}
			}
			continue
		}
		for side := range r.g[next] {
			add(state{next, side, 0, at})
			// An empty side ends at once, maybe ahead of this one's asking for it.
			if len(r.g[next][side]) == 0 {
				after := s
				after.at++
				add(after)
			}
		}
	}
	return set
}

func (g rules) with(start string) rules {
	all := rules{"": {{start}}}
	for name, sides := range g {
		all[name] = sides
	}
	return all
}

func (r *recognizer) next(s state) (string, bool) {
	side := r.g[s.rule][s.side]
	if s.at == len(side) {
		return "", false
	}
	return side[s.at], true
}

// may says whether a token may stand behind all that were told before, and tells it then.
func (r *recognizer) may(token api.Token) bool {
	names := r.names(token)
	var set []state
	for _, s := range r.sets[len(r.sets)-1] {
		if next, some := r.next(s); some && slices.Contains(names, next) {
			s.at++
			set = append(set, s)
		}
	}
	if len(set) == 0 {
		return false
	}
	r.tokens = append(r.tokens, token)
	r.sets = append(r.sets, r.closed(set, ""))
	return true
}

// names are the words of the grammar that a token is.
func (r *recognizer) names(token api.Token) []string {
	n := len(r.tokens)
	switch {
	case token.Kind == api.TkName:
		return []string{"NAME"}
	case token.Kind == api.TkInt && token.Int > 0:
		return []string{"NUM", "POS"}
	case token.Kind == api.TkInt:
		return []string{"NUM"}
	case token.Text == "/" && n >= 2 && r.tokens[n-1].Kind == api.TkInt && r.tokens[n-2].Text == "~>":
		return []string{"OVER"}
	}
	return []string{token.Text}
}

// ends says whether the end may stand there.
func (r *recognizer) ends() bool {
	for _, s := range r.sets[len(r.sets)-1] {
		if s.rule == "" && s.at == 1 {
			return true
		}
	}
	return false
}

func (r *recognizer) back(to int) {
	r.sets, r.tokens = r.sets[:to+1], r.tokens[:to]
}

// first is the first of tokens, the end among them, that may not stand there; -1: none.
func (r *recognizer) first(tokens []api.Token) int {
	for i, token := range tokens {
		if token.Kind == api.TkEnd {
			if !r.ends() {
				return i
			}
		} else if !r.may(token) {
			return i
		}
	}
	return -1
}

// everyToken is one text for each word, sign, and kind of number, and two names.
func everyToken() []string {
	return strings.Fields("node flow returns var let tel int bool rate due if then else and or not true false fby tail *^ /^ ~> :: <> <= >= ( ) ; : , = < > + - * / % x f 0 1 7")
}

func lexed(t *testing.T, src string) []api.Token {
	t.Helper()
	tokens, err := lex.Tokens(src)
	if err != nil {
		t.Fatal(err)
	}
	return tokens
}

// checkAgainst asks that reading begins an error where the grammar says so, and none of its kind if it says none.
func checkAgainst(t *testing.T, r *recognizer, kept int, src string, err error) {
	t.Helper()
	tokens := lexed(t, src)
	r.back(kept)
	at := r.first(tokens[kept:])
	var f api.Fault
	if at >= 0 {
		if want := (api.Fault{At: tokens[kept+at].At, Err: api.ErrSyntax}); !errors.As(err, &f) || f != want {
			t.Errorf("%s: %v, not %v", short(src), err, want)
		}
	} else if errors.Is(err, api.ErrSyntax) || errors.Is(err, api.ErrOpen) {
		t.Errorf("%s: %v", short(src), err)
	}
}

// changed has all texts, but that some of them, from at on, are others.
func changed(texts []string, at, less int, more ...string) string {
	all := slices.Concat(texts[:at], more, texts[at+less:])
	return strings.Join(all, " ")
}

// checkChanges tries each token, and the end, in the place of each one of src, each ahead of each, and src without each.
func checkChanges(t *testing.T, start, src string, read func(string) error) {
	t.Helper()
	tokens := lexed(t, src)
	var texts []string
	for _, token := range tokens[:len(tokens)-1] {
		texts = append(texts, token.Text)
	}
	if err := read(src); err != nil {
		t.Fatal(err)
	}
	r := newRecognizer(readRules(), start)
	if at := r.first(tokens); at >= 0 {
		t.Fatalf("the grammar has no %q at %d", tokens[at].Text, tokens[at].At)
	}
	for i := len(texts); i >= 0; i-- {
		try := func(src string) { checkAgainst(t, r, i, src, read(src)) }
		try(strings.Join(texts[:i], " "))
		for _, token := range everyToken() {
			try(changed(texts, i, 0, token))
			if i < len(texts) {
				try(changed(texts, i, 1, token))
			}
		}
		if i < len(texts) {
			try(changed(texts, i, 1))
		}
	}
}

func readProgram(src string) error {
	_, err := Program(src)
	return err
}

func readExpr(src string) error {
	_, err := Expr(src)
	return err
}

// P6.1: each token in the place of each other one, and the end.
func TestEachTokenElsewhere(t *testing.T) {
	checkChanges(t, "Program", sample, readProgram)
	for _, src := range []string{
		"x", "7", "f(x, 1)", "x ~> 1 / 2 / 3 ~> 4", "- tail -x *^ 2 /^ 3",
		"if not a = b then c fby d else e :: f or g and h",
		"(a + b * c - d) % (e < f) and not not (g >= -1)",
	} {
		checkChanges(t, "Expr", src, readExpr)
	}
}

// P6.1: all sources of a few tokens.
func TestAllShortSources(t *testing.T) {
	tokens := everyToken()
	g := readRules()
	programs, exprs := newRecognizer(g, "Program"), newRecognizer(g, "Expr")
	try := func(texts ...string) {
		src := strings.Join(texts, " ")
		checkAgainst(t, programs, 0, src, readProgram(src))
		checkAgainst(t, exprs, 0, src, readExpr(src))
	}
	try()
	for _, a := range tokens {
		try(a)
		for _, b := range tokens {
			try(a, b)
			for _, c := range tokens {
				try(a, b, c)
			}
		}
	}
}

// walk is a source of tokens by chance, most of which may stand where they do.
func walk(r *rand.Rand, g *recognizer, most int) string {
	g.back(0)
	var texts []string
	all := everyToken()
	for len(texts) < most {
		text := all[r.Intn(len(all))]
		tokens, _ := lex.Tokens(text)
		if g.may(tokens[0]) {
			texts = append(texts, text)
		} else if r.Intn(4*most) == 0 {
			texts = append(texts, text)
			break
		}
		if g.ends() && r.Intn(most) == 0 {
			break
		}
	}
	return strings.Join(texts, " ")
}

// P6.1: sources by chance.
func TestWalks(t *testing.T) {
	chance := rand.New(rand.NewSource(6))
	g := readRules()
	for start, read := range map[string]func(string) error{"Program": readProgram, "Expr": readExpr} {
		r := newRecognizer(g, start)
		for range 1500 {
			src := walk(chance, r, 1+chance.Intn(40))
			checkAgainst(t, r, 0, src, read(src))
		}
	}
}

// R1: whatever bytes there are, there is an answer, and a fault is within the source.
func TestWhateverBytes(t *testing.T) {
	chance := rand.New(rand.NewSource(61))
	all := append(everyToken(), "&", "\x00", "\xff", "é", "--", "\n", "00", "9223372036854775808", "nnnnnnnnnnnnnnnnnnnnnnnnnnnnnnnnnn")
	for range 3000 {
		var src strings.Builder
		for range chance.Intn(30) {
			src.WriteString(all[chance.Intn(len(all))])
			src.WriteString([]string{" ", "", "\n"}[chance.Intn(3)])
		}
		for _, err := range []error{readExpr(src.String()), readProgram(src.String())} {
			var f api.Fault
			if err != nil && (!errors.As(err, &f) || f.At < 0 || f.At > src.Len() || f.Err == api.OK || !errors.Is(err, f.Err)) {
				t.Errorf("%q: %v", src.String(), err)
			}
		}
	}
}
