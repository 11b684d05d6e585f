package types

import (
	"errors"
	"math"
	"math/rand"
	"slices"
	"testing"

	"carillon/api"
)

// judged is the type of e, or false and the first place at which it is wrong, by the forms and by calls of itself.
func judged(e api.Expr, vars []uint8) (t uint8, at int, ok bool) {
	if e.Kind == api.ExVar {
		if len(e.Args) > 0 || e.Int < 0 || uint64(e.Int) >= uint64(len(vars)) {
			return 0, e.At, false
		}
		return vars[e.Int], 0, true
	}
	for _, f := range forms() {
		if f.kind == e.Kind && len(f.args) == len(e.Args) {
			return judgedBy(f, e, vars)
		}
	}
	return 0, e.At, false
}

func judgedBy(f form, e api.Expr, vars []uint8) (t uint8, at int, ok bool) {
	var same []uint8
	for i, arg := range e.Args {
		is, at, ok := judged(arg, vars)
		if !ok {
			return 0, at, false
		}
		if f.args[i] == 's' {
			same = append(same, is)
			ok = is == same[0]
		} else {
			ok = is == typed(f.args[i], 0)
		}
		if !ok {
			return 0, arg.At, false
		}
	}
	if f.made == 's' {
		return same[0], 0, true
	}
	return typed(f.made, 0), 0, true
}

// dice makes expressions by chance; astray is how many of 1000 parts are not what they should be.
type dice struct {
	chance *rand.Rand
	vars   []uint8
	astray int
	places int
}

func newDice(seed int64, astray int) *dice {
	m := &dice{chance: rand.New(rand.NewSource(seed)), astray: astray}
	for range m.chance.Intn(6) {
		m.vars = append(m.vars, 1+uint8(m.chance.Intn(2)))
	}
	return m
}

// expr is an expression of that type, and that depth at most, if nothing goes astray.
func (m *dice) expr(t uint8, depth int) api.Expr {
	m.places++
	e := api.Expr{At: m.places}
	if m.goesAstray() {
		t = other(t)
	}
	if depth <= 1 || m.chance.Intn(6) == 0 {
		m.leaf(&e, t)
	} else {
		m.branch(&e, t, depth)
	}
	if m.goesAstray() {
		m.spoil(&e, t)
	}
	return e
}

func (m *dice) goesAstray() bool { return m.chance.Intn(1000) < m.astray }

// spoil makes e, which is of that type, one that may be wrong in itself.
func (m *dice) spoil(e *api.Expr, t uint8) {
	switch m.chance.Intn(4) {
	case 0:
		e.Kind = uint8(m.chance.Intn(40))
	case 1:
		e.Args = append(e.Args, m.expr(t, 1))
	case 2:
		e.Args = e.Args[:len(e.Args)/2]
	case 3:
		e.Kind, e.Int = api.ExVar, int64(len(m.vars)+m.chance.Intn(3))
	}
}

func (m *dice) leaf(e *api.Expr, t uint8) {
	e.Kind, e.Int = api.ExInt, m.chance.Int63n(3)
	if t == api.TBool {
		e.Kind, e.Int = api.ExBool, m.chance.Int63n(2)
	}
	if len(m.vars) > 0 && m.chance.Intn(2) == 0 {
		if v := m.chance.Intn(len(m.vars)); m.vars[v] == t {
			e.Kind, e.Int = api.ExVar, int64(v)
		}
	}
}

func (m *dice) branch(e *api.Expr, t uint8, depth int) {
	var may []form
	for _, f := range forms() {
		if typed(f.made, t) == t && f.args != "" {
			may = append(may, f)
		}
	}
	f := may[m.chance.Intn(len(may))]
	same := 1 + uint8(m.chance.Intn(2))
	if f.made == 's' {
		same = t
	}
	e.Kind = f.kind
	for i := range f.args {
		e.Args = append(e.Args, m.expr(typed(f.args[i], same), depth-1))
	}
}

// P9.1: made expressions, right and wrong, against an answer by calls.
func TestExprMade(t *testing.T) {
	rights, wrongs := 0, 0
	for seed := range int64(60000) {
		m := newDice(seed, []int{0, 2, 10, 40}[seed%4])
		e := m.expr(1+uint8(seed/4%2), 1+int(seed%7))
		want, at, ok := judged(e, m.vars)
		got, err := Expr(e, m.vars)
		var fault api.Fault
		errors.As(err, &fault)
		switch {
		case ok && (got != want || err != nil):
			t.Fatalf("seed %d: %d, %v, not %d", seed, got, err, want)
		case !ok && (got != 0 || fault != api.Fault{At: at, Err: api.ErrType}):
			t.Fatalf("seed %d: %d, %v, not at %d", seed, got, err, at)
		case ok:
			rights++
		default:
			wrongs++
		}
	}
	if rights < 20000 || wrongs < 5000 {
		t.Errorf("%d are right, %d wrong", rights, wrongs)
	}
}

// parts has all parts of e, itself among them.
func parts(e *api.Expr) []*api.Expr {
	all := []*api.Expr{e}
	for i := range e.Args {
		all = append(all, parts(&e.Args[i])...)
	}
	return all
}

// P9.3: what is put in the place of a part of the same type changes no type.
func TestExprPut(t *testing.T) {
	for seed := range int64(3000) {
		m := newDice(seed, 0)
		e := m.expr(1+uint8(seed%2), 4)
		for i, part := range parts(&e) {
			is, err := Expr(*part, m.vars)
			if err != nil {
				t.Fatalf("seed %d: %v", seed, err)
			}
			with := cloned(e)
			*parts(&with)[i] = m.expr(is, 3)
			wantType(t, "another part of the same type", with, m.vars, 1+uint8(seed%2))
		}
		if t.Failed() {
			t.Fatalf("seed %d", seed)
		}
	}
}

// P9.3: the same, for each kind and each place of a part, of each kind.
func TestExprPutKinds(t *testing.T) {
	for _, f := range forms() {
		for _, same := range []uint8{api.TInt, api.TBool} {
			for i := range f.args {
				for _, by := range forms() {
					for _, bySame := range []uint8{api.TInt, api.TBool} {
						e := right(f, same)
						if typed(by.made, bySame) != typed(f.args[i], same) {
							continue
						}
						e.Args[i] = right(by, bySame)
						wantType(t, "another Arg of the same type", e, few(), typed(f.made, same))
					}
				}
			}
		}
	}
}

// P9.3: whatever numbers there are, the type is the same.
func TestExprNumbers(t *testing.T) {
	for seed := range int64(500) {
		m := newDice(seed, 0)
		e := m.expr(1+uint8(seed%2), 5)
		for _, n := range []int64{0, 1, 2, math.MaxInt64, -1, math.MinInt64} {
			with := cloned(e)
			for _, part := range parts(&with) {
				if part.Kind != api.ExVar {
					part.Int = n
				}
			}
			wantType(t, "other numbers", with, m.vars, 1+uint8(seed%2))
		}
	}
}

// R6: what is asked at one time, or again, is answered alike.
func TestExprAgain(t *testing.T) {
	done := make(chan bool)
	for w := range int64(4) {
		go func() {
			defer func() { done <- true }()
			for seed := range int64(300) {
				m := newDice(seed+w, 30)
				e := m.expr(api.TInt, 5)
				first, err := Expr(e, m.vars)
				again, errAgain := Expr(cloned(e), slices.Clone(m.vars))
				var a, b api.Fault
				errors.As(err, &a)
				errors.As(errAgain, &b)
				if first != again || a != b {
					t.Errorf("seed %d: %d, %v and %d, %v", seed+w, first, a, again, b)
				}
			}
		}()
	}
	for range 4 {
		<-done
	}
}
