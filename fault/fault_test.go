package fault_test

import (
	"testing"

	"scriptorium/api"
	"scriptorium/fault"
)

// catches fails the test unless Catch answers that, and what do does behind its fault isn't done.
func catches(t *testing.T, what string, want api.Errno, do func()) {
	t.Helper()
	behind := false
	err := fault.Catch(func() {
		do()
		behind = true
	})
	if err != want || behind != (want == api.OK) {
		t.Errorf("%s: got %d, and what stands behind it done: %v; want %d", what, err, behind, want)
	}
}

func TestCatch(t *testing.T) {
	catches(t, "nothing", api.OK, func() {})
	catches(t, "no error", api.OK, func() { fault.Must(api.OK) })
	catches(t, "an error", api.ErrNone, func() { fault.Must(api.ErrNone) })
	catches(t, "what is needed is so", api.OK, func() { fault.Need(true, api.ErrLong) })
	catches(t, "what is needed isn't so", api.ErrLong, func() { fault.Need(false, api.ErrLong) })
	catches(t, "the first of two", api.ErrMime, func() {
		fault.Need(false, api.ErrMime)
		fault.Need(false, api.ErrLong)
	})
}

// The inner call's error is its own.
func TestCatchWithinCatch(t *testing.T) {
	inner := api.OK
	catches(t, "the outer one goes on", api.OK, func() {
		inner = fault.Catch(func() { fault.Must(api.ErrDead) })
	})
	if inner != api.ErrDead {
		t.Errorf("the inner one: got %d", inner)
	}
}

// What is no error of the program's goes further up: nobody takes it for one.
func TestCatchLeavesOtherPanics(t *testing.T) {
	defer func() {
		if e := recover(); e != "other" {
			t.Errorf("got %v", e)
		}
	}()
	fault.Catch(func() { panic("other") })
	t.Error("the panic was caught")
}
