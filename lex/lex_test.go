package lex

import (
	"errors"
	"math"
	"math/rand"
	"regexp"
	"slices"
	"strconv"
	"strings"
	"testing"
	"unsafe"

	"carillon/api"
)

const allWords = "node flow returns var let tel int bool rate due if then else and or not true false fby tail"

const allSigns = "*^ /^ ~> :: <> <= >= ( ) ; : , = < > + - * / %"

func name(s string, at int) api.Token { return api.Token{Kind: api.TkName, Text: s, At: at} }
func word(s string, at int) api.Token { return api.Token{Kind: api.TkWord, Text: s, At: at} }
func sign(s string, at int) api.Token { return api.Token{Kind: api.TkSign, Text: s, At: at} }
func end(at int) api.Token            { return api.Token{Kind: api.TkEnd, At: at} }

func number(s string, n int64, at int) api.Token {
	return api.Token{Kind: api.TkInt, Text: s, Int: n, At: at}
}

func short(s string) string {
	if len(s) > 60 {
		return strconv.Quote(s[:60]) + ".."
	}
	return strconv.Quote(s)
}

func wantTokens(t *testing.T, src string, want ...api.Token) {
	t.Helper()
	got, e := Tokens(src)
	if e != nil || !slices.Equal(got, want) {
		t.Errorf("Tokens(%s): %v, %v, not %v", short(src), got, e, want)
	}
}

// wantFault also asks what R2 and R7 say of every error.
func wantFault(t *testing.T, src string, at int, number api.Errno) {
	t.Helper()
	got, e := Tokens(src)
	if e == nil {
		t.Errorf("Tokens(%s): %d tokens, not error %d", short(src), len(got), number)
		return
	}
	want := api.Fault{At: at, Err: number}
	var f api.Fault
	if !errors.As(e, &f) || f != want {
		t.Errorf("Tokens(%s): %v, not %v", short(src), e, want)
	}
	for _, n := range []api.Errno{api.ErrLong, api.ErrFull, api.ErrByte, api.ErrNumber, api.ErrName} {
		if errors.Is(e, n) != (n == number) {
			t.Errorf("Tokens(%s): errors.Is(%v, %d) is %v", short(src), e, n, n != number)
		}
	}
	if errors.Unwrap(e) != error(want) || e.Error() == "" {
		t.Errorf("Tokens(%s): %v does not wrap %v", short(src), e, want)
	}
	if len(got) != 0 {
		t.Errorf("Tokens(%s): %d tokens beside an error", short(src), len(got))
	}
}

// P3.1
func TestWord(t *testing.T) {
	for _, s := range strings.Fields(allWords) {
		if !Word(s) {
			t.Errorf("Word(%q): false", s)
		}
		for _, other := range []string{s + "s", s + "_", s + "1", "_" + s, s + " ", " " + s, s[1:], strings.ToUpper(s), strings.ToUpper(s[:1]) + s[1:], s + s} {
			if Word(other) {
				t.Errorf("Word(%q): true", other)
			}
		}
	}
	for _, s := range []string{"", "x", "main", "up", "down", "late", "cons", "0", "-", "\x00", "end", "elif", "return", allWords} {
		if Word(s) {
			t.Errorf("Word(%q): true", s)
		}
	}
}

// P3.1
func TestName(t *testing.T) {
	for _, s := range []string{
		"x", "_", "__", "A", "Z", "a", "z", "x1", "_1", "Az09_", "X", "main", "NODE", "Node", "nodes", "node1", "node_", "fbyx",
		strings.Repeat("a", api.MaxName), strings.Repeat("_", api.MaxName), "b" + strings.Repeat("9", api.MaxName-1),
	} {
		if !Name(s) {
			t.Errorf("Name(%q): false", s)
		}
	}
	for _, s := range []string{
		"", " ", "1", "1x", "0", "x ", " x", "x y", "x-", "-x", "x.y", "x\n", "x\x00", "\x00", "é", "xé", "x\xff", "=", "--", "--x",
		strings.Repeat("a", api.MaxName+1), strings.Repeat("a", 1000),
	} {
		if Name(s) {
			t.Errorf("Name(%q): true", s)
		}
	}
	for _, s := range strings.Fields(allWords) {
		if Name(s) {
			t.Errorf("Name(%q): true", s)
		}
	}
}

// P3.1: of every byte, as the first one and as a later one.
func TestNameBytes(t *testing.T) {
	const letters = "ABCDEFGHIJKLMNOPQRSTUVWXYZabcdefghijklmnopqrstuvwxyz_"
	for b := range 256 {
		s := string([]byte{byte(b)})
		first := strings.Contains(letters, s)
		if Name(s) != first {
			t.Errorf("Name(%q): %v", s, !first)
		}
		later := first || strings.Contains("0123456789", s)
		if Name("x"+s) != later || Name("x"+s+"y") != later {
			t.Errorf("Name(%q): %v", "x"+s, !later)
		}
	}
}

// P3.2: the chapter's examples, and what stands between tokens.
func TestTokens(t *testing.T) {
	wantTokens(t, "x = y *^ 3; -- three", name("x", 0), sign("=", 2), name("y", 4), sign("*^", 6), number("3", 3, 9), sign(";", 10), end(20))
	wantTokens(t, "a<=b", name("a", 0), sign("<=", 1), name("b", 3), end(4))
	wantTokens(t, "", end(0))
	wantTokens(t, " ", end(1))
	wantTokens(t, " \t\n\r", end(4))
	wantTokens(t, "x", name("x", 0), end(1))
	wantTokens(t, "\tx\r\ny ", name("x", 1), name("y", 4), end(6))
	wantTokens(t, "node f(a: int) returns (b: bool);", word("node", 0), name("f", 5), sign("(", 6), name("a", 7), sign(":", 8), word("int", 10), sign(")", 13), word("returns", 15), sign("(", 23), name("b", 24), sign(":", 25), word("bool", 27), sign(")", 31), sign(";", 32), end(33))
	wantTokens(t, "x~>1/2", name("x", 0), sign("~>", 1), number("1", 1, 3), sign("/", 4), number("2", 2, 5), end(6))
}

// P3.2
func TestRemarks(t *testing.T) {
	wantTokens(t, "--", end(2))
	wantTokens(t, "-- to the end", end(13))
	wantTokens(t, "--\n", end(3))
	wantTokens(t, "-- one\nx", name("x", 7), end(8))
	wantTokens(t, "x--y\nz", name("x", 0), name("z", 5), end(6))
	wantTokens(t, "x -- y -- z\r w\nv", name("x", 0), name("v", 15), end(16))
	wantTokens(t, "--\n--\n-- \n", end(10))
	wantTokens(t, "-- &\x00\xff~^!\"é 007 "+strings.Repeat("a", 99)+"\n1", number("1", 1, 117), end(118))
	wantTokens(t, "-", sign("-", 0), end(1))
	wantTokens(t, "- -", sign("-", 0), sign("-", 2), end(3))
	wantTokens(t, "-\n-", sign("-", 0), sign("-", 2), end(3))
	wantTokens(t, "---", end(3))
	wantTokens(t, "---\n-", sign("-", 4), end(5))
	wantTokens(t, "- --", sign("-", 0), end(4))
	wantTokens(t, "-->", end(3))
	wantTokens(t, "->", sign("-", 0), sign(">", 1), end(2))
	wantTokens(t, "5-3", number("5", 5, 0), sign("-", 1), number("3", 3, 2), end(3))
	wantTokens(t, "-1", sign("-", 0), number("1", 1, 1), end(2))
}

// P3.2
func TestSigns(t *testing.T) {
	for _, s := range strings.Fields(allSigns) {
		wantTokens(t, s, sign(s, 0), end(len(s)))
		wantTokens(t, s+" "+s, sign(s, 0), sign(s, len(s)+1), end(2*len(s)+1))
		wantTokens(t, "x"+s+"1", name("x", 0), sign(s, 1), number("1", 1, 1+len(s)), end(2+len(s)))
	}
	wantTokens(t, "**^", sign("*", 0), sign("*^", 1), end(3))
	wantTokens(t, "//^", sign("/", 0), sign("/^", 1), end(3))
	wantTokens(t, ":::", sign("::", 0), sign(":", 2), end(3))
	wantTokens(t, "::::", sign("::", 0), sign("::", 2), end(4))
	wantTokens(t, ": :", sign(":", 0), sign(":", 2), end(3))
	wantTokens(t, "<=>", sign("<=", 0), sign(">", 2), end(3))
	wantTokens(t, "<>=", sign("<>", 0), sign("=", 2), end(3))
	wantTokens(t, "<<=", sign("<", 0), sign("<=", 1), end(3))
	wantTokens(t, "><>", sign(">", 0), sign("<>", 1), end(3))
	wantTokens(t, ">>=", sign(">", 0), sign(">=", 1), end(3))
	wantTokens(t, "==", sign("=", 0), sign("=", 1), end(2))
	wantTokens(t, "=<", sign("=", 0), sign("<", 1), end(2))
	wantTokens(t, "=>", sign("=", 0), sign(">", 1), end(2))
	wantTokens(t, ">=<", sign(">=", 0), sign("<", 2), end(3))
	wantTokens(t, "< =", sign("<", 0), sign("=", 2), end(3))
	wantTokens(t, "~>>", sign("~>", 0), sign(">", 2), end(3))
	wantTokens(t, "~>=", sign("~>", 0), sign("=", 2), end(3))
	wantTokens(t, "%%", sign("%", 0), sign("%", 1), end(2))
}

// P3.2: every byte with which none begins, at the beginning and behind a token.
func TestErrByte(t *testing.T) {
	const begin = "ABCDEFGHIJKLMNOPQRSTUVWXYZabcdefghijklmnopqrstuvwxyz_0123456789 \t\n\r();:,=<>+-*/%"
	refused := 0
	for b := range 256 {
		s := string([]byte{byte(b)})
		if strings.Contains(begin, s) {
			if _, e := Tokens(s); e != nil {
				t.Errorf("Tokens(%q): %v", s, e)
			}
			continue
		}
		refused++
		wantFault(t, s, 0, api.ErrByte)
		wantFault(t, s+"x", 0, api.ErrByte)
		wantFault(t, "x"+s, 1, api.ErrByte)
		wantFault(t, "\n 1"+s+"=", 3, api.ErrByte)
	}
	if refused != 256-len(begin) {
		t.Errorf("%d bytes refused", refused)
	}
	wantFault(t, "x = y & z", 6, api.ErrByte)
	wantFault(t, "~", 0, api.ErrByte)
	wantFault(t, "~ >", 0, api.ErrByte)
	wantFault(t, "~=", 0, api.ErrByte)
	wantFault(t, "~~>", 0, api.ErrByte)
	wantFault(t, "* ^", 2, api.ErrByte)
	wantFault(t, "*^^", 2, api.ErrByte)
	wantFault(t, "<^", 1, api.ErrByte)
	wantFault(t, ">^", 1, api.ErrByte)
	wantFault(t, ":^", 1, api.ErrByte)
	wantFault(t, "x/--\n^", 5, api.ErrByte)
	wantFault(t, "é", 0, api.ErrByte)
	wantFault(t, "xé", 1, api.ErrByte)
}

// P3.2: a word is one only as far as the name goes.
func TestWordTokens(t *testing.T) {
	for _, s := range strings.Fields(allWords) {
		n := len(s)
		wantTokens(t, s, word(s, 0), end(n))
		wantTokens(t, s+"("+s, word(s, 0), sign("(", n), word(s, n+1), end(2*n+1))
		for _, more := range []string{"x", "_", "1", "X", "node"} {
			wantTokens(t, s+more, name(s+more, 0), end(n+len(more)))
			wantTokens(t, s+" "+s+more, word(s, 0), name(s+more, n+1), end(2*n+1+len(more)))
		}
		wantTokens(t, "1"+s, number("1", 1, 0), word(s, 1), end(n+1))
		wantTokens(t, "_"+s, name("_"+s, 0), end(n+1))
		upper := strings.ToUpper(s)
		wantTokens(t, upper, name(upper, 0), end(n))
	}
	wantTokens(t, "12ab34", number("12", 12, 0), name("ab34", 2), end(6))
	wantTokens(t, "ab12 34", name("ab12", 0), number("34", 34, 5), end(7))
}

// P3.2
func TestErrName(t *testing.T) {
	greatest := strings.Repeat("n", api.MaxName)
	wantTokens(t, greatest, name(greatest, 0), end(api.MaxName))
	wantTokens(t, greatest+" "+greatest, name(greatest, 0), name(greatest, api.MaxName+1), end(2*api.MaxName+1))
	wantTokens(t, greatest+"=", name(greatest, 0), sign("=", api.MaxName), end(api.MaxName+1))
	wantFault(t, greatest+"n", 0, api.ErrName)
	wantFault(t, greatest+"0", 0, api.ErrName)
	wantFault(t, greatest+"_", 0, api.ErrName)
	wantFault(t, "x = "+greatest+greatest+" &", 4, api.ErrName)
	wantFault(t, "node"+greatest, 0, api.ErrName)
	wantFault(t, strings.Repeat("n", api.MaxSource), 0, api.ErrName)
}

// P3.2
func TestNumbers(t *testing.T) {
	for _, n := range []int64{0, 1, 7, 9, 10, 42, 100, 999, 1 << 31, 1 << 53, 1000000000000000000, 9223372036854775799, math.MaxInt64 - 1, math.MaxInt64} {
		s := strconv.FormatInt(n, 10)
		wantTokens(t, s, number(s, n, 0), end(len(s)))
		wantTokens(t, " "+s+"x", number(s, n, 1), name("x", len(s)+1), end(len(s)+2))
	}
	wantTokens(t, "0 0", number("0", 0, 0), number("0", 0, 2), end(3))
	wantTokens(t, "0x1", number("0", 0, 0), name("x1", 1), end(3))
	wantTokens(t, "1_000", number("1", 1, 0), name("_000", 1), end(5))
	wantTokens(t, "1e9", number("1", 1, 0), name("e9", 1), end(3))
	for _, s := range []string{
		"00", "01", "007", "0123456789", "09223372036854775807", strings.Repeat("0", 40),
		"9223372036854775808", "9223372036854775809", "9223372036854775810", "9999999999999999999",
		"10000000000000000000", "18446744073709551615", "18446744073709551616", "18446744073709551617", "27670116110564327424", "99999999999999999999",
		"100000000000000000000", "340282366920938463463374607431768211457", "1" + strings.Repeat("0", 1000),
	} {
		wantFault(t, s, 0, api.ErrNumber)
		wantFault(t, "x = "+s+";", 4, api.ErrNumber)
	}
}

// P3.2
func TestErrLong(t *testing.T) {
	wantTokens(t, strings.Repeat(" ", api.MaxSource), end(api.MaxSource))
	wantTokens(t, "-- "+strings.Repeat("&", api.MaxSource-3), end(api.MaxSource))
	wantTokens(t, strings.Repeat("\n", api.MaxSource-1)+"x", name("x", api.MaxSource-1), end(api.MaxSource))
	wantFault(t, strings.Repeat(" ", api.MaxSource+1), api.MaxSource, api.ErrLong)
	wantFault(t, strings.Repeat(" ", 3*api.MaxSource), api.MaxSource, api.ErrLong)
	wantFault(t, "&"+strings.Repeat(" ", api.MaxSource), api.MaxSource, api.ErrLong)
	wantFault(t, "007"+strings.Repeat(" ", api.MaxSource), api.MaxSource, api.ErrLong)
	wantFault(t, strings.Repeat("n", api.MaxSource+1), api.MaxSource, api.ErrLong)
	wantFault(t, strings.Repeat(";", api.MaxSource+1), api.MaxSource, api.ErrLong)
}

// P3.2
func TestErrFull(t *testing.T) {
	for _, s := range []string{";", "x", "7", "if", "*^"} {
		piece := s + " "
		most := strings.Repeat(piece, api.MaxTokens-1)
		got, e := Tokens(most + "-- no token\n")
		if e != nil || len(got) != api.MaxTokens {
			t.Fatalf("%q: %d tokens, %v", s, len(got), e)
		}
		for i, k := range got[:api.MaxTokens-1] {
			if k.Text != s || k.At != i*len(piece) {
				t.Fatalf("%q: %v is number %d", s, k, i)
			}
		}
		if got[api.MaxTokens-1] != end(len(most)+12) {
			t.Errorf("%q: %v at the end", s, got[api.MaxTokens-1])
		}
		wantFault(t, most+s, len(most), api.ErrFull)
		wantFault(t, most+"  x", len(most)+2, api.ErrFull)
		wantFault(t, most+"x &", len(most), api.ErrFull)
		wantFault(t, most+strings.Repeat(s, 50), len(most), most50(s))
		// The token that would be one too many is wrong in itself: that is named first.
		wantFault(t, most+"&", len(most), api.ErrByte)
		wantFault(t, most+"00", len(most), api.ErrNumber)
		wantFault(t, most+strings.Repeat("n", api.MaxName+1), len(most), api.ErrName)
	}
	wantFault(t, strings.Repeat("=", api.MaxSource), api.MaxTokens-1, api.ErrFull)
	wantFault(t, strings.Repeat("=", api.MaxTokens), api.MaxTokens-1, api.ErrFull)
}

// most50 is what is told of fifty pieces that follow each other without a blank.
func most50(s string) api.Errno {
	switch s {
	case "x", "if":
		return api.ErrName
	case "7":
		return api.ErrNumber
	}
	return api.ErrFull
}

// P3.2: the first place is told, whatever comes behind.
func TestFirstFault(t *testing.T) {
	long := strings.Repeat("n", api.MaxName+1)
	wrong := []struct {
		text   string
		number api.Errno
	}{{"&", api.ErrByte}, {"00", api.ErrNumber}, {"9223372036854775808", api.ErrNumber}, {long, api.ErrName}}
	for _, a := range wrong {
		for _, b := range wrong {
			wantFault(t, "x = "+a.text+" "+b.text+" y", 4, a.number)
			wantFault(t, "-- "+b.text+"\n; "+a.text+" "+b.text, 6+len(b.text), a.number)
		}
		wantFault(t, a.text+strings.Repeat(" ;", api.MaxTokens), 0, a.number)
	}
}

// P3.3
func TestLine(t *testing.T) {
	for _, x := range []struct {
		src          string
		at           int
		line, column int
	}{
		{"a\nb", 0, 1, 1}, {"a\nb", 1, 1, 2}, {"a\nb", 2, 2, 1}, {"a\nb", 3, 2, 2}, {"a\nb", 4, 2, 2}, {"a\nb", 99, 2, 2}, {"a\nb", math.MaxInt, 2, 2},
		{"a\nb", -1, 1, 1}, {"a\nb", math.MinInt, 1, 1},
		{"", 0, 1, 1}, {"", 1, 1, 1}, {"", -1, 1, 1},
		{"\n", 0, 1, 1}, {"\n", 1, 2, 1}, {"\n", 2, 2, 1},
		{"\n\n\n", 0, 1, 1}, {"\n\n\n", 1, 2, 1}, {"\n\n\n", 2, 3, 1}, {"\n\n\n", 3, 4, 1},
		{"ab\ncd\n", 5, 2, 3}, {"ab\ncd\n", 6, 3, 1}, {"ab\ncd\n", 7, 3, 1},
		{"a\r\nb", 1, 1, 2}, {"a\r\nb", 2, 1, 3}, {"a\r\nb", 3, 2, 1}, {"a\rb", 2, 1, 3},
		{"é\nx", 1, 1, 2}, {"é\nx", 2, 1, 3}, {"é\nx", 3, 2, 1}, {"\t\tx", 2, 1, 3},
		{"& 007\n~", 6, 2, 1},
	} {
		if line, column := Line(x.src, x.at); line != x.line || column != x.column {
			t.Errorf("Line(%q, %d): %d, %d, not %d, %d", x.src, x.at, line, column, x.line, x.column)
		}
	}
}

// P3.3: counted byte by byte, also of a text that is longer than a source may be.
func TestLineCounted(t *testing.T) {
	src := strings.Repeat("\nab\n\n cde \r\n", 8000)
	line, column := 1, 1
	for at := range len(src) + 1 {
		if at%997 == 0 || at < 50 || at > len(src)-50 {
			if l, c := Line(src, at); l != line || c != column {
				t.Fatalf("Line of %d: %d, %d, not %d, %d", at, l, c, line, column)
			}
		}
		if at < len(src) && src[at] == 10 {
			line, column = line+1, 0
		}
		column++
	}
}

// plain tells tokens by another way than Tokens does: by patterns.
func plain(src string) ([]api.Token, api.Fault) {
	kinds := []struct {
		kind    uint8
		pattern *regexp.Regexp
	}{{gap, gapPattern}, {api.TkName, namePattern}, {api.TkInt, numberPattern}, {api.TkSign, signPattern}}
	var list []api.Token
next:
	for at := 0; at < len(src); {
		for _, k := range kinds {
			text := k.pattern.FindString(src[at:])
			if text == "" {
				continue
			}
			token := api.Token{Kind: k.kind, Text: text, At: at}
			if k.kind == api.TkName && slices.Contains(strings.Fields(allWords), text) {
				token.Kind = api.TkWord
			}
			if k.kind == api.TkName && len(text) > api.MaxName {
				return nil, api.Fault{At: at, Err: api.ErrName}
			}
			if k.kind == api.TkInt {
				n, e := strconv.ParseUint(text, 10, 63)
				if e != nil || strconv.FormatUint(n, 10) != text {
					return nil, api.Fault{At: at, Err: api.ErrNumber}
				}
				token.Int = int64(n)
			}
			if k.kind != gap {
				list = append(list, token)
			}
			at += len(text)
			continue next
		}
		return nil, api.Fault{At: at, Err: api.ErrByte}
	}
	return append(list, end(len(src))), api.Fault{}
}

var (
	gapPattern    = regexp.MustCompile(`^(?:[ \t\n\r]|--[^\n]*)`)
	namePattern   = regexp.MustCompile(`^[A-Za-z_][A-Za-z_0-9]*`)
	numberPattern = regexp.MustCompile(`^[0-9]+`)
	signPattern   = regexp.MustCompile(`^(?:\*\^|/\^|~>|::|<>|<=|>=|[();:,=<>+*/%-])`)
)

func comparePlain(t *testing.T, src string) {
	t.Helper()
	want, f := plain(src)
	if f != (api.Fault{}) {
		wantFault(t, src, f.At, f.Err)
		return
	}
	wantTokens(t, src, want...)
}

// P3.2: all sources of up to four bytes out of those that matter.
func TestAllShort(t *testing.T) {
	const bytes = "a_0719 \n-*/^~>:<=;&"
	var grow func(src string, more int)
	grow = func(src string, more int) {
		comparePlain(t, src)
		for i := 0; i < len(bytes) && more > 0 && !t.Failed(); i++ {
			grow(src+bytes[i:i+1], more-1)
		}
	}
	grow("", 4)
}

var pieces = append(strings.Fields(allWords+" "+allSigns+" x y1 _ Main 0 1 42 9223372036854775807 n23456789012345678901234567890_2"), strings.Fields(allSigns)...)

var gaps = []string{" ", "\t", "\n", "\r", "  \n", "-- a remark & 007\n", "--\n", "\n--\n--  --\n\t"}

// P3.2, and P3.4's second sentence.
func TestMade(t *testing.T) {
	r := rand.New(rand.NewSource(3))
	wrong := []string{"&", "^", "~", "007", "9223372036854775808", strings.Repeat("w", 33)}
	for range 4000 {
		var b strings.Builder
		for range r.Intn(30) {
			b.WriteString(pieces[r.Intn(len(pieces))])
			if r.Intn(3) > 0 {
				b.WriteString(gaps[r.Intn(len(gaps))])
			}
			if r.Intn(60) == 0 {
				b.WriteString(wrong[r.Intn(len(wrong))])
			}
		}
		comparePlain(t, b.String())
		between(t, b.String())
	}
}

// between asks that nothing but blanks and remarks stands behind each token's text, up to the next one.
func between(t *testing.T, src string) {
	t.Helper()
	list, e := Tokens(src)
	if e != nil {
		return
	}
	from, text := 0, ""
	for _, k := range list {
		rest, found := strings.CutPrefix(src[from:k.At], text)
		rest = regexp.MustCompile(`--[^\n]*`).ReplaceAllString(rest, "")
		if !found || strings.Trim(rest, " \t\n\r") != "" {
			t.Errorf("%q stands between %d and %d of %s, not %q", src[from:k.At], from, k.At, short(src), text)
		}
		from, text = k.At, k.Text
	}
	if from != len(src) || text != "" {
		t.Errorf("the end of %s is at %d", short(src), from)
	}
}

// P3.4
func TestBlanks(t *testing.T) {
	r := rand.New(rand.NewSource(4))
	some := func(first string) string {
		for range r.Intn(3) {
			first += gaps[r.Intn(len(gaps))]
		}
		return first
	}
	for range 2000 {
		var list []string
		for range r.Intn(20) {
			list = append(list, pieces[r.Intn(len(pieces))])
		}
		want, e := Tokens(strings.Join(list, " "))
		if e != nil {
			t.Fatal(list, e)
		}
		src := some("")
		var places []int
		for _, s := range list {
			places = append(places, len(src))
			// A blank ahead of a remark, lest a hyphen be part of it.
			src += s + some(gaps[r.Intn(4)])
		}
		places = append(places, len(src))
		for i := range want {
			want[i].At = places[i]
		}
		wantTokens(t, src, want...)
	}
}

// P3.4: around tokens that need none between, too.
func TestBlanksAround(t *testing.T) {
	want, _ := Tokens("o=f(0 fby o,i*^2)::1;")
	got, e := Tokens("\r\n o\t= --\nf ( 0\nfby\ro , i *^ 2 ) :: 1 ; -- done")
	if e != nil || len(got) != len(want) {
		t.Fatal(got, e)
	}
	for i := range got {
		got[i].At = want[i].At
	}
	if !slices.Equal(got, want) {
		t.Errorf("%v, not %v", got, want)
	}
}

// R5 and R6: each answer is its own, and the same again.
func TestNewMemory(t *testing.T) {
	const src = "x = y *^ 3;"
	a, _ := Tokens(src)
	b, _ := Tokens(src)
	if !slices.Equal(a, b) {
		t.Fatalf("%v, and then %v", a, b)
	}
	for i := range a {
		a[i] = api.Token{Kind: api.TkWord, Text: "gone", At: 99}
	}
	c, _ := Tokens(src)
	if !slices.Equal(b, c) {
		t.Errorf("%v, and then %v", b, c)
	}
	bytes := []byte(src)
	d, _ := Tokens(unsafe.String(&bytes[0], len(bytes)))
	clear(bytes)
	if !slices.Equal(c, d) {
		t.Errorf("%v, when the source is no more", d)
	}
}

// R1: whatever bytes there are.
func FuzzTokens(f *testing.F) {
	for _, s := range []string{"", "x = y *^ 3; -- three", "a<=b", "x = 007", "~", "--", "\xff"} {
		f.Add(s)
	}
	f.Fuzz(func(t *testing.T, src string) {
		if len(src) < api.MaxTokens {
			comparePlain(t, src)
			between(t, src)
		}
	})
}
