package dead

import (
	"errors"
	"testing"

	"charterhouse/api"
)

// What is refused is told by its error, however deep; what is done to its end by none.
func TestCaught(t *testing.T) {
	for _, e := range []api.Errno{api.ErrBad, api.ErrSum, api.ErrNone} {
		done := false
		if got := caught(func() { func() { insist(api.OK); insist(e) }(); done = true }); got != e || done {
			t.Errorf("%d: %d, gone on: %t", e, got, done)
		}
	}
	done := false
	if e := caught(func() { insist(api.OK); done = true }); e != api.OK || !done {
		t.Errorf("done to its end: %d, %t", e, done)
	}
}

// A panic that refuses nothing is not taken for an error, be it one of the api's own.
func TestCaughtNoRefusal(t *testing.T) {
	for _, fault := range []any{"a fault", errors.New("a fault"), api.ErrBad, 8} {
		var seen any
		func() {
			defer func() { seen = recover() }()
			caught(func() { panic(fault) })
		}()
		if seen != fault {
			t.Errorf("%v: %v goes on", fault, seen)
		}
	}
}
