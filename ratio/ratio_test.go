package ratio

import (
	"errors"
	"math"
	"math/big"
	"testing"

	"carillon/api"
)

const (
	least    = math.MinInt64
	greatest = math.MaxInt64
	half     = 1 << 62
	root     = 3037000499 // the greatest number whose square is not too great
)

func by(a, b int64) api.Ratio { return api.Ratio{Num: a, Den: b} }

// P2.1
func TestMay(t *testing.T) {
	for _, x := range []struct {
		r    api.Ratio
		want bool
	}{
		{by(1, 2), true}, {by(-1, 2), true}, {by(3, 1), true}, {by(6, 35), true}, {by(-6, 35), true},
		{by(2, 4), false}, {by(-2, 4), false}, {by(6, 3), false}, {by(3, 3), false}, {by(10, 15), false},
		{by(0, 1), true}, {by(0, 2), false}, {by(0, 0), false}, {by(0, -1), false}, {by(0, greatest), false}, {by(0, least), false},
		{by(1, 0), false}, {by(-1, 0), false}, {by(least, 0), false}, {by(greatest, 0), false},
		{by(1, -1), false}, {by(1, -2), false}, {by(-1, -2), false}, {by(1, least), false}, {by(least, least), false}, {by(least, -1), false}, {by(-1, -1), false},
		{by(least, 1), true}, {by(least, 3), true}, {by(least, greatest), true}, {by(least, 2), false}, {by(least, half), false}, {by(least, 6), false},
		{by(greatest, 1), true}, {by(1, greatest), true}, {by(-greatest, greatest), false}, {by(greatest, greatest), false}, {by(greatest-1, greatest), true}, {by(greatest, 7), false}, {by(greatest, 2), true},
	} {
		if got := May(x.r); got != x.want {
			t.Errorf("May(%v): %v", x.r, got)
		}
	}
}

// P2.1
func TestNew(t *testing.T) {
	for _, x := range []struct {
		a, b int64
		want api.Ratio
		e    api.Errno
	}{
		{6, 4, by(3, 2), api.OK}, {-6, 4, by(-3, 2), api.OK}, {6, -4, by(-3, 2), api.OK}, {-6, -4, by(3, 2), api.OK},
		{1, 2, by(1, 2), api.OK}, {5, 5, by(1, 1), api.OK}, {5, -5, by(-1, 1), api.OK}, {12, 4, by(3, 1), api.OK},
		{0, 5, by(0, 1), api.OK}, {0, -5, by(0, 1), api.OK}, {0, 1, by(0, 1), api.OK}, {0, least, by(0, 1), api.OK}, {0, greatest, by(0, 1), api.OK},
		{1, 0, by(0, 0), api.ErrArg}, {0, 0, by(0, 0), api.ErrArg}, {least, 0, by(0, 0), api.ErrArg}, {greatest, 0, by(0, 0), api.ErrArg},
		{least, 1, by(least, 1), api.OK}, {least, -1, by(0, 0), api.ErrOver}, {least, 3, by(least, 3), api.OK}, {least, -3, by(0, 0), api.ErrOver},
		{least, 2, by(-half, 1), api.OK}, {least, -2, by(half, 1), api.OK}, {least, -6, by(half, 3), api.OK},
		{least, least, by(1, 1), api.OK}, {least, greatest, by(least, greatest), api.OK}, {least, -greatest, by(0, 0), api.ErrOver},
		{1, least, by(0, 0), api.ErrOver}, {-1, least, by(0, 0), api.ErrOver}, {greatest, least, by(0, 0), api.ErrOver},
		{2, least, by(-1, half), api.OK}, {-2, least, by(1, half), api.OK}, {half, least, by(-1, 2), api.OK}, {6, least, by(-3, half), api.OK},
		{greatest, -greatest, by(-1, 1), api.OK}, {1, -greatest, by(-1, greatest), api.OK}, {greatest, -1, by(-greatest, 1), api.OK}, {-greatest, -1, by(greatest, 1), api.OK},
	} {
		if got, e := New(x.a, x.b); got != x.want || e != x.e {
			t.Errorf("New(%d, %d): %v, %v, not %v, %v", x.a, x.b, got, e, x.want, x.e)
		}
	}
}

type told struct {
	a, b api.Ratio
	want api.Ratio
	e    api.Errno
}

func checkTold(t *testing.T, name string, call func(a, b api.Ratio) (api.Ratio, api.Errno), rows []told) {
	t.Helper()
	for _, x := range rows {
		if got, e := call(x.a, x.b); got != x.want || e != x.e {
			t.Errorf("%s(%v, %v): %v, %v, not %v, %v", name, x.a, x.b, got, e, x.want, x.e)
		}
	}
}

// P2.2
func TestAdd(t *testing.T) {
	checkTold(t, "Add", Add, []told{
		{by(1, 2), by(1, 3), by(5, 6), api.OK}, {by(1, 2), by(-1, 3), by(1, 6), api.OK}, {by(-1, 2), by(1, 3), by(-1, 6), api.OK}, {by(-1, 2), by(-1, 3), by(-5, 6), api.OK},
		{by(1, 6), by(1, 3), by(1, 2), api.OK}, {by(1, 2), by(1, 2), by(1, 1), api.OK}, {by(1, 2), by(-1, 2), by(0, 1), api.OK}, {by(5, 6), by(1, 10), by(14, 15), api.OK},
		{by(0, 1), by(0, 1), by(0, 1), api.OK}, {by(0, 1), by(least, 1), by(least, 1), api.OK}, {by(1, greatest), by(0, 1), by(1, greatest), api.OK},
		{by(greatest-1, 1), by(1, 1), by(greatest, 1), api.OK}, {by(greatest, 1), by(1, 1), by(0, 0), api.ErrOver},
		{by(least+1, 1), by(-1, 1), by(least, 1), api.OK}, {by(least, 1), by(-1, 1), by(0, 0), api.ErrOver},
		{by(greatest, 1), by(least, 1), by(-1, 1), api.OK}, {by(least, 1), by(least, 1), by(0, 0), api.ErrOver},
		{by(greatest, 2), by(greatest, 2), by(greatest, 1), api.OK}, {by(least, 3), by(least, 3), by(0, 0), api.ErrOver},
		{by(1, greatest), by(-1, greatest), by(0, 1), api.OK}, {by(1, greatest), by(6, greatest), by(1, greatest/7), api.OK},
		{by(least, greatest), by(greatest-1, greatest), by(-2, greatest), api.OK},
		{by(1, 1<<31), by(1, 1<<32-1), by(1<<32-1+1<<31, (1<<32-1)<<31), api.OK}, {by(1, 1<<32), by(1, 1<<31-1), by(1<<32+1<<31-1, (1<<31-1)<<32), api.OK},
		{by(1, 1<<32), by(1, 1<<32-1), by(0, 0), api.ErrOver}, {by(1, greatest), by(1, greatest-1), by(0, 0), api.ErrOver}, {by(1, 1<<33), by(1, 1<<31+1), by(0, 0), api.ErrOver},
		{by(greatest, 2), by(1, 2), by(half, 1), api.OK}, {by(greatest, 2), by(-1, 3), by(0, 0), api.ErrOver}, {by(least, 3), by(1, 3), by(-greatest, 3), api.OK}, {by(least, 3), by(-1, 3), by(-3074457345618258603, 1), api.OK}, {by(least, 3), by(-2, 3), by(0, 0), api.ErrOver},
	})
}

// P2.2
func TestSub(t *testing.T) {
	checkTold(t, "Sub", Sub, []told{
		{by(1, 2), by(1, 3), by(1, 6), api.OK}, {by(1, 3), by(1, 2), by(-1, 6), api.OK}, {by(1, 2), by(-1, 3), by(5, 6), api.OK}, {by(-1, 2), by(1, 3), by(-5, 6), api.OK}, {by(-1, 2), by(-1, 3), by(-1, 6), api.OK},
		{by(1, 2), by(1, 2), by(0, 1), api.OK}, {by(-1, 2), by(-1, 2), by(0, 1), api.OK}, {by(1, 2), by(1, 6), by(1, 3), api.OK}, {by(0, 1), by(0, 1), by(0, 1), api.OK}, {by(0, 1), by(2, 3), by(-2, 3), api.OK},
		{by(least, 1), by(least, 1), by(0, 1), api.OK}, {by(0, 1), by(least, 1), by(0, 0), api.ErrOver}, {by(-1, 1), by(least, 1), by(greatest, 1), api.OK}, {by(least, 1), by(0, 1), by(least, 1), api.OK},
		{by(0, 1), by(greatest, 1), by(-greatest, 1), api.OK}, {by(-1, 1), by(greatest, 1), by(least, 1), api.OK}, {by(-2, 1), by(greatest, 1), by(0, 0), api.ErrOver},
		{by(greatest, 1), by(least, 1), by(0, 0), api.ErrOver}, {by(greatest, 2), by(-greatest, 2), by(greatest, 1), api.OK},
		{by(least, 3), by(least, 3), by(0, 1), api.OK}, {by(0, 1), by(least, 3), by(0, 0), api.ErrOver}, {by(-2, 3), by(least, 3), by((greatest-1)/3, 1), api.OK}, {by(-1, 3), by(least, 3), by(greatest, 3), api.OK},
		{by(1, greatest), by(1, greatest), by(0, 1), api.OK}, {by(1, greatest-1), by(1, greatest), by(0, 0), api.ErrOver},
		{by(1, root), by(1, root+1), by(1, root*(root+1)), api.OK},
	})
}

// P2.2
func TestMul(t *testing.T) {
	checkTold(t, "Mul", Mul, []told{
		{by(2, 3), by(5, 7), by(10, 21), api.OK}, {by(-2, 3), by(5, 7), by(-10, 21), api.OK}, {by(2, 3), by(-5, 7), by(-10, 21), api.OK}, {by(-2, 3), by(-5, 7), by(10, 21), api.OK},
		{by(2, 3), by(3, 2), by(1, 1), api.OK}, {by(2, 3), by(3, 4), by(1, 2), api.OK}, {by(2, 3), by(9, 1), by(6, 1), api.OK},
		{by(0, 1), by(5, 7), by(0, 1), api.OK}, {by(5, 7), by(0, 1), by(0, 1), api.OK}, {by(0, 1), by(least, 1), by(0, 1), api.OK}, {by(0, 1), by(0, 1), by(0, 1), api.OK}, {by(0, 1), by(-1, greatest), by(0, 1), api.OK},
		{by(greatest, 2), by(2, greatest), by(1, 1), api.OK}, {by(greatest, 2), by(-4, greatest), by(-2, 1), api.OK},
		{by(greatest, 1), by(greatest-1, greatest), by(greatest-1, 1), api.OK}, {by(greatest-1, greatest), by(greatest, greatest-1), by(1, 1), api.OK},
		{by(least, 1), by(1, 1), by(least, 1), api.OK}, {by(least, 1), by(-1, 1), by(0, 0), api.ErrOver}, {by(least, 1), by(-1, 2), by(half, 1), api.OK}, {by(-1, 2), by(least, 1), by(half, 1), api.OK}, {by(least, 1), by(least, 1), by(0, 0), api.ErrOver}, {by(least, 3), by(-3, 4), by(1<<61, 1), api.OK},
		{by(greatest, 1), by(1, greatest), by(1, 1), api.OK}, {by(greatest, 1), by(2, 1), by(0, 0), api.ErrOver}, {by(1, greatest), by(1, 2), by(0, 0), api.ErrOver}, {by(1, half), by(1, 2), by(0, 0), api.ErrOver},
		{by(root, 1), by(root, 1), by(root*root, 1), api.OK}, {by(root+1, 1), by(root+1, 1), by(0, 0), api.ErrOver}, {by(1, root), by(1, root), by(1, root*root), api.OK}, {by(1, root+1), by(1, root+1), by(0, 0), api.ErrOver},
		{by(1<<32, 1), by(1<<31, 1), by(0, 0), api.ErrOver}, {by(1<<32, 1), by(-1<<31, 1), by(least, 1), api.OK}, {by(1<<32, 1), by(-1<<32, 1), by(0, 0), api.ErrOver}, {by(1<<32, 1), by(1<<32, 1), by(0, 0), api.ErrOver},
	})
}

// P2.2
func TestDiv(t *testing.T) {
	checkTold(t, "Div", Div, []told{
		{by(2, 3), by(5, 7), by(14, 15), api.OK}, {by(-2, 3), by(5, 7), by(-14, 15), api.OK}, {by(2, 3), by(-5, 7), by(-14, 15), api.OK}, {by(-2, 3), by(-5, 7), by(14, 15), api.OK},
		{by(2, 3), by(2, 3), by(1, 1), api.OK}, {by(1, 2), by(3, 4), by(2, 3), api.OK}, {by(6, 1), by(-3, 1), by(-2, 1), api.OK},
		{by(0, 1), by(5, 7), by(0, 1), api.OK}, {by(0, 1), by(-5, 7), by(0, 1), api.OK}, {by(0, 1), by(least, 1), by(0, 1), api.OK},
		{by(1, 2), by(0, 1), by(0, 0), api.ErrArg}, {by(0, 1), by(0, 1), by(0, 0), api.ErrArg}, {by(least, 1), by(0, 1), by(0, 0), api.ErrArg},
		{by(least, 1), by(1, 1), by(least, 1), api.OK}, {by(least, 1), by(-1, 1), by(0, 0), api.ErrOver}, {by(least, 1), by(least, 1), by(1, 1), api.OK}, {by(least, 1), by(-2, 1), by(half, 1), api.OK}, {by(least, 3), by(least, 5), by(5, 3), api.OK}, {by(least, 1), by(1, 2), by(0, 0), api.ErrOver},
		{by(1, 1), by(least, 1), by(0, 0), api.ErrOver}, {by(-1, 1), by(least, 1), by(0, 0), api.ErrOver}, {by(2, 1), by(least, 1), by(-1, half), api.OK}, {by(-2, 3), by(least, 3), by(1, half), api.OK}, {by(greatest, 1), by(least, 1), by(0, 0), api.ErrOver},
		{by(greatest, 2), by(greatest, 2), by(1, 1), api.OK}, {by(greatest, 1), by(1, 2), by(0, 0), api.ErrOver}, {by(greatest, 2), by(1, 2), by(greatest, 1), api.OK}, {by(1, greatest), by(2, 1), by(0, 0), api.ErrOver}, {by(1, greatest), by(1, greatest), by(1, 1), api.OK}, {by(1, greatest), by(-1, greatest), by(-1, 1), api.OK},
		{by(1, 1), by(1, greatest), by(greatest, 1), api.OK}, {by(1, 1), by(greatest, 1), by(1, greatest), api.OK}, {by(1, 1), by(-greatest, 1), by(-1, greatest), api.OK}, {by(2, 1), by(1, greatest), by(0, 0), api.ErrOver},
		{by(1<<32, 1), by(1, 1<<31), by(0, 0), api.ErrOver}, {by(1<<32, 1), by(-1, 1<<31), by(least, 1), api.OK}, {by(-1<<32, 1), by(1, 1<<31), by(least, 1), api.OK}, {by(-1<<32, 1), by(-1, 1<<31), by(0, 0), api.ErrOver},
	})
}

// P2.2, P2.3: where one of the two may not be, or both.
func TestWhatMayNotBe(t *testing.T) {
	good := []api.Ratio{by(1, 2), by(0, 1), by(greatest, 1), by(least, 1), by(1, greatest)}
	bad := []api.Ratio{by(2, 4), by(1, 0), by(0, 0), by(0, 2), by(1, -1), by(-1, -2), by(0, -1), by(least, 2), by(least, 0), by(1, least), by(greatest, greatest)}
	refused := func(a, b api.Ratio) {
		t.Helper()
		for i, call := range []func(a, b api.Ratio) (api.Ratio, api.Errno){Add, Sub, Mul, Div} {
			if got, e := call(a, b); got != by(0, 0) || e != api.ErrArg {
				t.Errorf("call %d of %v, %v: %v, %v", i, a, b, got, e)
			}
		}
		if got, e := Cmp(a, b); got != 0 || e != api.ErrArg {
			t.Errorf("Cmp(%v, %v): %v, %v", a, b, got, e)
		}
	}
	for _, x := range bad {
		for _, y := range good {
			refused(x, y)
			refused(y, x)
		}
		for _, y := range bad {
			refused(x, y)
		}
	}
}

// P2.3
func TestCmp(t *testing.T) {
	for _, x := range []struct {
		a, b api.Ratio
		want int
	}{
		{by(1, 3), by(1, 2), -1}, {by(1, 2), by(1, 3), 1}, {by(1, 2), by(1, 2), 0}, {by(-1, 3), by(-1, 2), 1}, {by(-1, 2), by(-1, 3), -1}, {by(-1, 2), by(-1, 2), 0},
		{by(-1, 2), by(1, 3), -1}, {by(1, 3), by(-1, 2), 1}, {by(0, 1), by(0, 1), 0}, {by(0, 1), by(1, greatest), -1}, {by(0, 1), by(-1, greatest), 1}, {by(1, greatest), by(0, 1), 1}, {by(-1, greatest), by(0, 1), -1},
		{by(least, 1), by(least, 1), 0}, {by(least, 1), by(greatest, 1), -1}, {by(greatest, 1), by(least, 1), 1}, {by(greatest, 1), by(greatest, 1), 0}, {by(least, 1), by(-greatest, 1), -1}, {by(0, 1), by(least, 1), 1},
		{by(1, greatest), by(1, greatest-1), -1}, {by(greatest-1, greatest), by(greatest-2, greatest-1), 1}, {by(greatest-2, greatest-1), by(greatest-1, greatest), -1}, {by(-greatest+1, greatest), by(-greatest+2, greatest-1), -1},
		{by(greatest, 2), by(greatest-2, 3), 1}, {by(least, greatest), by(-1, 1), -1}, {by(greatest, greatest-1), by(greatest-1, greatest-2), -1},
	} {
		if got, e := Cmp(x.a, x.b); got != x.want || e != api.OK {
			t.Errorf("Cmp(%v, %v): %v, %v, not %v", x.a, x.b, got, e, x.want)
		}
	}
}

// P2.3
func TestWhole(t *testing.T) {
	for _, x := range []struct {
		r    api.Ratio
		want int64
		is   bool
	}{
		{by(4, 1), 4, true}, {by(-4, 1), -4, true}, {by(0, 1), 0, true}, {by(1, 1), 1, true}, {by(greatest, 1), greatest, true}, {by(least, 1), least, true},
		{by(1, 2), 0, false}, {by(4, 2), 0, false}, {by(3, 0), 0, false}, {by(0, 0), 0, false}, {by(0, 2), 0, false}, {by(4, -1), 0, false}, {by(least, -1), 0, false}, {by(least, 2), 0, false}, {by(5, greatest), 0, false}, {by(5, least), 0, false},
	} {
		if got, is := Whole(x.r); got != x.want || is != x.is {
			t.Errorf("Whole(%v): %v, %v, not %v, %v", x.r, got, is, x.want, x.is)
		}
	}
}

// edges are numbers beside all bounds, of both signs.
func edges() []int64 {
	all := []int64{0, 1, -1, 2, -2, 3, -3, 4, 6, -6, 7, 10, -12, 35, 127, 1 << 20, 1 << 31, 1<<31 - 1, -1 << 31, 1 << 32, 1<<32 - 1, -1 << 32, root, root + 1, -root, 1<<61 - 1, 3 << 61, half, -half, half - 1, half + 1}
	for n := int64(0); n < 5; n++ {
		all = append(all, greatest-n, least+n)
	}
	return append(all, greatest/7, greatest/49, -greatest/7, (greatest-1)/2, (greatest-1)/3, 6700417*641, 92737*649657*337)
}

// some are ratios that may be, of those edges.
func some() []api.Ratio {
	var all []api.Ratio
	for _, a := range edges() {
		for _, b := range edges() {
			if r := by(a, b); May(r) {
				all = append(all, r)
			}
		}
	}
	return all
}

// eachPair goes through a good part of all pairs: all of them would take minutes.
func eachPair(see func(a, b api.Ratio)) {
	all := some()
	for i, a := range all {
		for j := i % 7; j < len(all); j += 7 {
			see(a, all[j])
		}
	}
}

func exact(r api.Ratio) *big.Rat {
	return new(big.Rat).SetFrac(big.NewInt(r.Num), big.NewInt(r.Den))
}

// exactly is what an exact number is told as; one that is not there has no ratio.
func exactly(r *big.Rat) (api.Ratio, api.Errno) {
	switch {
	case r == nil:
		return api.Ratio{}, api.ErrArg
	case !r.Num().IsInt64() || !r.Denom().IsInt64():
		return api.Ratio{}, api.ErrOver
	default:
		return by(r.Num().Int64(), r.Denom().Int64()), api.OK
	}
}

// P2.1
func TestNewAgainstExactNumbers(t *testing.T) {
	for _, a := range edges() {
		for _, b := range edges() {
			var real *big.Rat
			if b != 0 {
				real = exact(by(a, b))
			}
			want, told := exactly(real)
			got, e := New(a, b)
			if got != want || e != told {
				t.Errorf("New(%d, %d): %v, %v, not %v, %v", a, b, got, e, want, told)
			}
			if may := e == api.OK && got == by(a, b); May(by(a, b)) != may {
				t.Errorf("May(%d by %d): %v", a, b, !may)
			}
		}
	}
}

// P2.2
func TestToldAgainstExactNumbers(t *testing.T) {
	for _, x := range []struct {
		name  string
		call  func(a, b api.Ratio) (api.Ratio, api.Errno)
		exact func(a, b *big.Rat) *big.Rat
	}{
		{"Add", Add, func(a, b *big.Rat) *big.Rat { return new(big.Rat).Add(a, b) }},
		{"Sub", Sub, func(a, b *big.Rat) *big.Rat { return new(big.Rat).Sub(a, b) }},
		{"Mul", Mul, func(a, b *big.Rat) *big.Rat { return new(big.Rat).Mul(a, b) }},
		{"Div", Div, func(a, b *big.Rat) *big.Rat {
			if b.Sign() == 0 {
				return nil
			}
			return new(big.Rat).Quo(a, b)
		}},
	} {
		seen := map[api.Errno]int{}
		eachPair(func(a, b api.Ratio) {
			want, e := exactly(x.exact(exact(a), exact(b)))
			seen[e]++
			if got, told := x.call(a, b); got != want || told != e {
				t.Errorf("%s(%v, %v): %v, %v, not %v, %v", x.name, a, b, got, told, want, e)
			}
		})
		if seen[api.OK] < 1000 || seen[api.ErrOver] < 1000 {
			t.Errorf("%s: %v", x.name, seen)
		}
	}
}

// P2.3
func TestCmpAgainstExactNumbers(t *testing.T) {
	eachPair(func(a, b api.Ratio) {
		want := exact(a).Cmp(exact(b))
		if got, e := Cmp(a, b); got != want || e != api.OK {
			t.Errorf("Cmp(%v, %v): %v, %v, not %v", a, b, got, e, want)
		}
		if same, e := Cmp(a, a); same != 0 || e != api.OK {
			t.Errorf("Cmp(%v, %v): %v, %v", a, a, same, e)
		}
	})
}

// P2.4
func TestOrderDoesNotMatter(t *testing.T) {
	for i, call := range []func(a, b api.Ratio) (api.Ratio, api.Errno){Add, Mul} {
		eachPair(func(a, b api.Ratio) {
			one, e := call(a, b)
			other, f := call(b, a)
			if one != other || e != f {
				t.Errorf("call %d of %v, %v: %v, %v and %v, %v", i, a, b, one, e, other, f)
			}
		})
	}
}

// P2.4: nor does it matter which two of three go together first.
func TestWhichFirstDoesNotMatter(t *testing.T) {
	all := some()
	for i, call := range []func(a, b api.Ratio) (api.Ratio, api.Errno){Add, Mul} {
		seen := 0
		for j, a := range all {
			b, c := all[(j*31+7)%len(all)], all[(j*53+11)%len(all)]
			first, e := call(a, b)
			last, f := call(b, c)
			if e != api.OK || f != api.OK {
				continue
			}
			one, e := call(first, c)
			other, f := call(a, last)
			if e != api.OK || f != api.OK {
				continue
			}
			seen++
			if one != other {
				t.Errorf("call %d of %v, %v, %v: %v and %v", i, a, b, c, one, other)
			}
		}
		if seen < 20 {
			t.Errorf("call %d: only %d", i, seen)
		}
	}
}

// P2.4
func TestThereAndBack(t *testing.T) {
	for i, x := range []struct {
		there, back func(a, b api.Ratio) (api.Ratio, api.Errno)
	}{{Add, Sub}, {Sub, Add}, {Mul, Div}, {Div, Mul}} {
		seen := 0
		eachPair(func(a, b api.Ratio) {
			if i >= 2 && b.Num == 0 {
				return
			}
			between, e := x.there(a, b)
			if e != api.OK {
				return
			}
			seen++
			if got, e := x.back(between, b); got != a || e != api.OK {
				t.Errorf("way %d of %v, %v: %v, %v", i, a, b, got, e)
			}
		})
		if seen < 1000 {
			t.Errorf("way %d: only %d pairs", i, seen)
		}
	}
}

// P2.4
func TestCmpGoesWithSub(t *testing.T) {
	seen := 0
	eachPair(func(a, b api.Ratio) {
		left, e := Sub(a, b)
		if e != api.OK {
			return
		}
		seen++
		sign := 0
		switch {
		case left.Num < 0:
			sign = -1
		case left.Num > 0:
			sign = 1
		}
		if got, _ := Cmp(a, b); got != sign {
			t.Errorf("Cmp(%v, %v): %d, but %v is left", a, b, got, left)
		}
	})
	if seen < 1000 {
		t.Errorf("only %d pairs", seen)
	}
}

// What is too great wraps the number by which that is told.
func TestTooGreatWrapsItsNumber(t *testing.T) {
	_, err := whole(amount{size: wide{0, 1 << 63}})
	if !errors.Is(err, api.ErrOver) || err.Error() == "" {
		t.Errorf("%v", err)
	}
	if _, err := whole(amount{below: true, size: wide{0, 1 << 63}}); err != nil {
		t.Errorf("%v", err)
	}
}
