package num

import (
	"math"
	"math/big"
	"testing"
)

const (
	least    = math.MinInt64
	greatest = math.MaxInt64
	root     = 3037000499 // the greatest number whose square is not too great
)

type told struct {
	a, b int64
	want int64
	is   bool
}

func checkTold(t *testing.T, name string, call func(a, b int64) (int64, bool), rows []told) {
	t.Helper()
	for _, x := range rows {
		if got, is := call(x.a, x.b); got != x.want || is != x.is {
			t.Errorf("%s(%d, %d): %d, %v, not %d, %v", name, x.a, x.b, got, is, x.want, x.is)
		}
	}
}

// P1.1
func TestAdd(t *testing.T) {
	checkTold(t, "Add", Add, []told{
		{2, 3, 5, true}, {-2, 3, 1, true}, {2, -3, -1, true}, {-2, -3, -5, true},
		{0, 0, 0, true}, {0, greatest, greatest, true}, {least, 0, least, true}, {0, least, least, true},
		{greatest - 1, 1, greatest, true}, {greatest, 1, 0, false}, {1, greatest, 0, false},
		{least + 1, -1, least, true}, {least, -1, 0, false}, {-1, least, 0, false},
		{greatest, greatest, 0, false}, {least, least, 0, false},
		{greatest, least, -1, true}, {least, greatest, -1, true},
		{1 << 62, 1 << 62, 0, false}, {1 << 62, 1<<62 - 1, greatest, true}, {-1 << 62, -1 << 62, least, true}, {-1 << 62, -1<<62 - 1, 0, false},
	})
}

// P1.1
func TestSub(t *testing.T) {
	checkTold(t, "Sub", Sub, []told{
		{2, 3, -1, true}, {-2, 3, -5, true}, {2, -3, 5, true}, {-2, -3, 1, true},
		{0, 0, 0, true}, {0, greatest, -greatest, true}, {least, 0, least, true}, {greatest, 0, greatest, true},
		{0, least, 0, false}, {-1, least, greatest, true}, {1, least, 0, false},
		{least + 1, 1, least, true}, {least, 1, 0, false}, {-2, greatest, 0, false}, {-1, greatest, least, true},
		{greatest - 1, -1, greatest, true}, {greatest, -1, 0, false},
		{greatest, greatest, 0, true}, {least, least, 0, true},
		{greatest, least, 0, false}, {least, greatest, 0, false},
	})
}

// P1.1
func TestMul(t *testing.T) {
	checkTold(t, "Mul", Mul, []told{
		{2, 3, 6, true}, {-2, 3, -6, true}, {2, -3, -6, true}, {-2, -3, 6, true},
		{0, 0, 0, true}, {0, least, 0, true}, {least, 0, 0, true}, {0, greatest, 0, true}, {-1, 0, 0, true},
		{1, least, least, true}, {least, 1, least, true}, {-1, least, 0, false}, {least, -1, 0, false},
		{-1, greatest, -greatest, true}, {greatest, 1, greatest, true},
		{1 << 32, 1 << 31, 0, false}, {-1 << 32, 1 << 31, least, true}, {1 << 32, -1 << 31, least, true}, {-1 << 32, -1 << 31, 0, false},
		{1 << 32, 1<<31 - 1, 1<<63 - 1<<32, true}, {-1 << 32, 1<<31 + 1, 0, false},
		{root, root, root * root, true}, {root + 1, root + 1, 0, false}, {-root, root, -root * root, true}, {-root - 1, root + 1, 0, false},
		{1 << 32, 1 << 32, 0, false}, {-1 << 33, 1 << 31, 0, false}, {greatest, greatest, 0, false}, {least, least, 0, false}, {greatest, least, 0, false}, {greatest, 2, 0, false}, {least, 2, 0, false},
		{7 * 7 * 73 * 127, 337 * 92737 * 649657, greatest, true},
	})
}

// P1.2
func TestGcd(t *testing.T) {
	checkTold(t, "Gcd", Gcd, []told{
		{12, 18, 6, true}, {-12, 18, 6, true}, {12, -18, 6, true}, {-12, -18, 6, true},
		{7, 5, 1, true}, {5, 15, 5, true}, {15, 5, 5, true}, {1, greatest, 1, true},
		{0, 0, 0, true}, {0, 5, 5, true}, {-5, 0, 5, true}, {0, greatest, greatest, true}, {0, -greatest, greatest, true},
		{0, least, 0, false}, {least, 0, 0, false}, {least, least, 0, false},
		{least, greatest, 1, true}, {least, 1 << 62, 1 << 62, true}, {-1 << 62, least, 1 << 62, true}, {least, 6, 2, true}, {least, -1, 1, true}, {greatest, greatest, greatest, true}, {-greatest, greatest, greatest, true},
	})
}

// P1.2
func TestLcm(t *testing.T) {
	checkTold(t, "Lcm", Lcm, []told{
		{4, 6, 12, true}, {4, -6, 12, true}, {-4, 6, 12, true}, {-4, -6, 12, true},
		{7, 5, 35, true}, {5, 15, 15, true}, {15, 5, 15, true},
		{0, 0, 0, true}, {0, 5, 0, true}, {-5, 0, 0, true}, {0, least, 0, true}, {least, 0, 0, true}, {greatest, 0, 0, true},
		{greatest, 1, greatest, true}, {greatest, -greatest, greatest, true}, {-1, -greatest, greatest, true},
		{least, 1, 0, false}, {-1, least, 0, false}, {least, least, 0, false}, {least, greatest, 0, false},
		{1 << 62, 3, 0, false}, {1 << 62, -2, 1 << 62, true}, {1 << 61, 3, 3 << 61, true}, {1 << 61, 5, 0, false},
		{root, root + 1, root * (root + 1), true}, {greatest, greatest - 1, 0, false}, {3 << 61, 1 << 62, 0, false},
	})
}

// P1.3
func TestFloor(t *testing.T) {
	checkTold(t, "Floor", Floor, []told{
		{7, 2, 3, true}, {-7, 2, -4, true}, {7, -2, -4, true}, {-7, -2, 3, true},
		{6, 2, 3, true}, {-6, 2, -3, true}, {6, -2, -3, true}, {-6, -2, 3, true},
		{1, 3, 0, true}, {-1, 3, -1, true}, {1, -3, -1, true}, {-1, -3, 0, true},
		{0, 5, 0, true}, {0, -5, 0, true}, {0, 0, 0, false}, {7, 0, 0, false}, {-7, 0, 0, false}, {least, 0, 0, false},
		{least, -1, 0, false}, {least, 1, least, true}, {least + 1, -1, greatest, true}, {greatest, -1, -greatest, true}, {greatest, 1, greatest, true},
		{least, 2, -1 << 62, true}, {greatest, 2, 1<<62 - 1, true}, {greatest, -2, -1 << 62, true},
		{least, greatest, -2, true}, {greatest, least, -1, true}, {least, least, 1, true}, {1, least, -1, true}, {-1, least, 0, true}, {-1, greatest, -1, true},
	})
}

// P1.3
func TestCeil(t *testing.T) {
	checkTold(t, "Ceil", Ceil, []told{
		{7, 2, 4, true}, {-7, 2, -3, true}, {7, -2, -3, true}, {-7, -2, 4, true},
		{6, 2, 3, true}, {-6, 2, -3, true}, {6, -2, -3, true}, {-6, -2, 3, true},
		{1, 3, 1, true}, {-1, 3, 0, true}, {1, -3, 0, true}, {-1, -3, 1, true},
		{0, 5, 0, true}, {0, -5, 0, true}, {0, 0, 0, false}, {7, 0, 0, false}, {-7, 0, 0, false}, {least, 0, 0, false},
		{least, -1, 0, false}, {least, 1, least, true}, {least + 1, -1, greatest, true}, {greatest, -1, -greatest, true}, {greatest, 1, greatest, true},
		{greatest, 2, 1 << 62, true}, {greatest, -2, -1<<62 + 1, true}, {-greatest, -2, 1 << 62, true},
		{least, greatest, -1, true}, {greatest, least, 0, true}, {least, least, 1, true}, {-1, least, 1, true}, {1, least, 0, true}, {1, greatest, 1, true},
	})
}

// P1.4
func TestDivAndMod(t *testing.T) {
	for _, x := range []struct{ a, b, whole, left int64 }{
		{7, 2, 3, 1}, {-7, 2, -3, -1}, {7, -2, -3, 1}, {-7, -2, 3, -1},
		{6, 2, 3, 0}, {-6, 2, -3, 0}, {6, -2, -3, 0}, {-6, -2, 3, 0},
		{1, 3, 0, 1}, {-1, 3, 0, -1}, {1, -3, 0, 1}, {-1, -3, 0, -1},
		{0, 5, 0, 0}, {0, -5, 0, 0}, {0, 1, 0, 0}, {0, -1, 0, 0},
		{7, 0, 0, 0}, {-7, 0, 0, 0}, {0, 0, 0, 0}, {least, 0, 0, 0}, {greatest, 0, 0, 0},
		{7, 1, 7, 0}, {7, -1, -7, 0}, {-7, -1, 7, 0}, {least, 1, least, 0}, {least, -1, least, 0}, {greatest, -1, -greatest, 0}, {least + 1, -1, greatest, 0},
		{least, 2, -1 << 62, 0}, {least, 3, -3074457345618258602, -2}, {greatest, 2, 1<<62 - 1, 1},
		{least, greatest, -1, -1}, {greatest, least, 0, greatest}, {least, least, 1, 0}, {-1, least, 0, -1},
	} {
		if whole, left := Div(x.a, x.b), Mod(x.a, x.b); whole != x.whole || left != x.left {
			t.Errorf("%d by %d: %d, %d left, not %d, %d left", x.a, x.b, whole, left, x.whole, x.left)
		}
	}
}

// edges are numbers beside all bounds, of both signs.
func edges() []int64 {
	var all []int64
	for n := int64(-13); n <= 13; n++ {
		all = append(all, n, least+n, greatest-n)
	}
	for _, n := range []int64{root, 1 << 20, 1 << 31, 1 << 32, 1 << 61, 1 << 62, 3 << 61, 1000000007, 6700417 * 641, 92737 * 649657 * 337, 2 * 3 * 5 * 7 * 11 * 13 * 17 * 19 * 23} {
		all = append(all, n-1, n, n+1, -n-1, -n, -n+1)
	}
	return all
}

func eachPair(see func(a, b int64)) {
	all := edges()
	for _, a := range all {
		for _, b := range all {
			see(a, b)
		}
	}
}

// exactly is what an exact number is told as.
func exactly(n *big.Int) (int64, bool) {
	if n == nil || !n.IsInt64() {
		return 0, false
	}
	return n.Int64(), true
}

func roundedDown(a, b *big.Int) *big.Int {
	if b.Sign() == 0 {
		return nil
	}
	if b.Sign() < 0 {
		a, b = new(big.Int).Neg(a), new(big.Int).Neg(b)
	}
	return new(big.Int).Div(a, b)
}

func roundedUp(a, b *big.Int) *big.Int {
	if b.Sign() == 0 {
		return nil
	}
	down := roundedDown(new(big.Int).Neg(a), b)
	return down.Neg(down)
}

func commonMultiple(a, b *big.Int) *big.Int {
	if a.Sign() == 0 || b.Sign() == 0 {
		return new(big.Int)
	}
	both := new(big.Int).Mul(a, b)
	return both.Quo(both.Abs(both), greatestDivisor(a, b))
}

func greatestDivisor(a, b *big.Int) *big.Int {
	return new(big.Int).GCD(nil, nil, new(big.Int).Abs(a), new(big.Int).Abs(b))
}

// P1.1, P1.2, P1.3
func TestToldAgainstExactNumbers(t *testing.T) {
	for _, x := range []struct {
		name  string
		call  func(a, b int64) (int64, bool)
		exact func(a, b *big.Int) *big.Int
	}{
		{"Add", Add, func(a, b *big.Int) *big.Int { return new(big.Int).Add(a, b) }},
		{"Sub", Sub, func(a, b *big.Int) *big.Int { return new(big.Int).Sub(a, b) }},
		{"Mul", Mul, func(a, b *big.Int) *big.Int { return new(big.Int).Mul(a, b) }},
		{"Gcd", Gcd, greatestDivisor}, {"Lcm", Lcm, commonMultiple},
		{"Floor", Floor, roundedDown}, {"Ceil", Ceil, roundedUp},
	} {
		eachPair(func(a, b int64) {
			want, is := exactly(x.exact(big.NewInt(a), big.NewInt(b)))
			if got, ok := x.call(a, b); got != want || ok != is {
				t.Errorf("%s(%d, %d): %d, %v, not %d, %v", x.name, a, b, got, ok, want, is)
			}
		})
	}
}

// goneRound is the int64 that differs from n by a multiple of 2^64.
func goneRound(n *big.Int) int64 {
	all := new(big.Int).Lsh(big.NewInt(1), 64)
	return int64(all.Mod(n, all).Uint64())
}

// P1.4
func TestDivAndModAgainstExactNumbers(t *testing.T) {
	eachPair(func(a, b int64) {
		var whole, left int64
		if b != 0 {
			q, r := new(big.Int).QuoRem(big.NewInt(a), big.NewInt(b), new(big.Int))
			whole, left = goneRound(q), goneRound(r)
		}
		if Div(a, b) != whole || Mod(a, b) != left {
			t.Errorf("%d by %d: %d, %d left, not %d, %d left", a, b, Div(a, b), Mod(a, b), whole, left)
		}
	})
}

// P1.5
func TestGcdTimesLcm(t *testing.T) {
	seen := 0
	eachPair(func(a, b int64) {
		divisor, isDivisor := Gcd(a, b)
		multiple, isMultiple := Lcm(a, b)
		if !isDivisor || !isMultiple {
			return
		}
		seen++
		want := new(big.Int).Mul(big.NewInt(a), big.NewInt(b))
		got := new(big.Int).Mul(big.NewInt(divisor), big.NewInt(multiple))
		if got.Cmp(want.Abs(want)) != 0 {
			t.Errorf("%d, %d: %d times %d is %v, not %v", a, b, divisor, multiple, got, want)
		}
	})
	if seen < 1000 {
		t.Errorf("only %d pairs had both", seen)
	}
}

// P1.5, where something is divided: by 0 both are 0 (P1.4).
func TestDivTimesDivisorAndMod(t *testing.T) {
	eachPair(func(a, b int64) {
		if b != 0 && Div(a, b)*b+Mod(a, b) != a {
			t.Errorf("%d by %d: %d, %d left", a, b, Div(a, b), Mod(a, b))
		}
	})
}
