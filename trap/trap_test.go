package trap_test

import (
	"boscage/api"
	"boscage/arena"
	"boscage/trap"
	"errors"
	"math"
	"slices"
	"testing"
)

// example makes the chapter's arena.
func example() *arena.Arena[api.Ref] {
	a, _ := arena.New[api.Ref](4)
	for _, v := range []api.Ref{1026, 1027, 0, 1028} {
		a.Take(v)
	}
	return a
}

// panicked returns what Must panics with.
func panicked(a *arena.Arena[api.Ref], r api.Ref) (v any) {
	defer func() { v = recover() }()
	trap.Must(a, r)
	return nil
}

// Promise 10.1.
func TestMust(t *testing.T) {
	a := example()
	for r, want := range map[api.Ref]api.Ref{1025: 1026, 1026: 1027, 1027: 0, 1028: 1028} {
		if panicked(a, r) != nil || trap.Must(a, r) != want {
			t.Errorf("Must(%d) = %d", r, trap.Must(a, r))
		}
	}
	a.Free(1027)
	for _, r := range []api.Ref{1027, 0, -5, 2051, 7, math.MaxInt} {
		if v := panicked(a, r); v != (trap.Stale{Ref: r}) {
			t.Errorf("Must(%d) panics with %v", r, v)
		}
	}
	if v := panicked(nil, 1025); v != (trap.Stale{Ref: 1025}) {
		t.Errorf("without an arena Must panics with %v", v)
	}
}

// Promise 10.1.
func TestError(t *testing.T) {
	for r, want := range map[api.Ref]string{-5: "stale -5", 0: "stale 0", 1027: "stale 1027", math.MinInt: "stale -9223372036854775808"} {
		if got := (trap.Stale{Ref: r}).Error(); got != want {
			t.Errorf("Error = %q, want %q", got, want)
		}
	}
	var s trap.Stale
	if e := error(trap.Stale{Ref: 9}); !errors.As(e, &s) || s.Ref != 9 {
		t.Error("Stale is no error")
	}
}

// Promises 10.1 and 10.3.
func TestAll(t *testing.T) {
	a := example()
	if l, r, e := trap.All(a, 1025, 1028); !slices.Equal(l, []api.Ref{1026, 1028}) || r != 0 || e != api.OK {
		t.Errorf("All(1025, 1028) = %v, %d, %v", l, r, e)
	}
	if l, r, e := trap.All(a); len(l) != 0 || r != 0 || e != api.OK {
		t.Errorf("All() = %v, %d, %v", l, r, e)
	}
	a.Free(1027)
	for _, c := range []struct {
		l    []api.Ref
		want api.Ref
	}{{[]api.Ref{1025, 1027, 5}, 1027}, {[]api.Ref{5, 1027}, 5}, {[]api.Ref{0}, 0}, {[]api.Ref{1025, -1}, -1}} {
		if l, r, e := trap.All(a, c.l...); len(l) != 0 || r != c.want || e != api.ErrStale {
			t.Errorf("All(%v) = %v, %d, %v", c.l, l, r, e)
		}
	}
	if l, r, e := trap.All[int](nil, 1025); len(l) != 0 || r != 1025 || e != api.ErrStale {
		t.Errorf("All without an arena = %v, %d, %v", l, r, e)
	}
}

// Promises 10.2 and 10.3.
func TestChain(t *testing.T) {
	a := example()
	whole := []api.Ref{1025, 1026, 1027}
	check := func(from api.Ref, most int, want []api.Ref, code api.Errno) {
		t.Helper()
		if l, e := trap.Chain(a, from, most); !slices.Equal(l, want) || e != code {
			t.Errorf("Chain(%d, %d) = %v, %v", from, most, l, e)
		}
	}
	check(1025, 3, whole, api.OK)
	check(1025, 4, whole, api.OK)
	check(1025, math.MaxInt, whole, api.OK)
	check(1025, 2, nil, api.ErrFull)
	check(1025, 0, nil, api.ErrFull)
	check(1027, 1, whole[2:], api.OK)
	check(1028, 3, nil, api.ErrFull)
	check(1028, 50, nil, api.ErrFull)
	check(1028, math.MaxInt, nil, api.ErrFull)
	check(0, 0, nil, api.OK)
	check(0, -1, nil, api.ErrArg)
	check(1025, -1, nil, api.ErrArg)
	check(5, 1, nil, api.ErrStale)
	check(5, 0, nil, api.ErrFull)
	a.Free(1027)
	check(1025, 9, nil, api.ErrStale)
	check(1025, 2, nil, api.ErrFull)
	check(1025, 3, nil, api.ErrStale)
	a.Set(1026, 77)
	check(1025, 9, nil, api.ErrStale)
	a.Set(1026, 1025)
	check(1025, math.MaxInt, nil, api.ErrFull)
	a = nil
	check(1025, 9, nil, api.ErrStale)
	check(1025, 0, nil, api.ErrFull)
	check(0, 9, nil, api.OK)
}
