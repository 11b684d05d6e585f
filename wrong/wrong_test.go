package wrong

import (
	"errors"
	"strings"
	"testing"

	"carillon/api"
)

// R7: an error wraps its fault, and that its number.
func TestNew(t *testing.T) {
	for _, want := range []api.Fault{{}, {At: 0, Err: api.ErrTwice}, {At: 17, Err: api.ErrSyntax}, {At: -3, Err: api.ErrBig}} {
		err := New("no such thing", want.At, want.Err)
		var got api.Fault
		if !errors.As(err, &got) || got != want || errors.Unwrap(err) != error(want) {
			t.Errorf("%v has the fault %v", want, got)
		}
		if !errors.Is(err, want.Err) || errors.Is(err, want.Err+1) {
			t.Errorf("%v is not that number alone", want)
		}
		if text := err.Error(); !strings.HasPrefix(text, "no such thing: ") || !strings.HasSuffix(text, want.Error()) {
			t.Errorf("%v has the text %q", want, text)
		}
	}
}

// caughtOf is what Caught answers, or panics with.
func caughtOf(caught any) (err error, panicked any) {
	defer func() { panicked = recover() }()
	return Caught(caught), nil
}

type wrapped struct{ error }

func (w wrapped) Unwrap() error { return w.error }

// Caught tells New's errors from all else that may end a call.
func TestCaught(t *testing.T) {
	want := New("no such thing", 5, api.ErrSyntax)
	for _, caught := range []error{want, wrapped{want}} {
		if err, panicked := caughtOf(caught); err != want || panicked != nil {
			t.Errorf("%v: %v, %v", caught, err, panicked)
		}
	}
	for _, other := range []any{"text", 5, errors.New("other"), api.Fault{At: 5, Err: api.ErrSyntax}, api.ErrSyntax} {
		if err, panicked := caughtOf(other); err != nil || panicked != other {
			t.Errorf("%v: %v, %v", other, err, panicked)
		}
	}
}

// Tried answers New's errors; what ends the work otherwise goes on.
func TestTried(t *testing.T) {
	want, done := New("no such thing", 5, api.ErrSyntax), 0
	if err := Tried(func() { done++ }); err != nil || done != 1 {
		t.Errorf("work that ends: %v, done %d times", err, done)
	}
	err := Tried(func() {
		done++
		panic(want)
	})
	if err != want || done != 2 {
		t.Errorf("%v, not %v, done %d times", err, want, done)
	}
	defer func() {
		if caught := recover(); caught != "other" {
			t.Errorf("another panic: %v", caught)
		}
	}()
	err = Tried(func() { panic("other") })
	t.Errorf("another panic is told as %v", err)
}
