// Package wrong has the error that layers answer for what is wrong at a place of a source.
package wrong

import (
	"errors"

	"carillon/api"
)

// told says in words what there is not, since there is that fault.
type told struct {
	what  string
	fault api.Fault
}

func (t told) Error() string { return t.what + ": " + t.fault.Error() }

// Unwrap is the fault.
func (t told) Unwrap() error { return t.fault }

// New is an error that wraps the fault of that number at that place.
func New(what string, at int, number api.Errno) error {
	return told{what, api.Fault{At: at, Err: number}}
}

// Caught is the error of New that ended a call, which caught is recovered from; a panic of any other kind goes on.
func Caught(caught any) error {
	if err, is := caught.(error); is {
		var t told
		if errors.As(err, &t) {
			return t
		}
	}
	panic(caught)
}

// Tried is the error of New that ended the work by a panic, or nil.
func Tried(work func()) (err error) {
	defer func() {
		if caught := recover(); caught != nil {
			err = Caught(caught)
		}
	}()
	work()
	return nil
}
