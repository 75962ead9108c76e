package arena_test

import (
	"boscage/api"
	"boscage/arena"
	"math"
	"slices"
	"testing"
)

// example makes the chapter's arena.
func example(t *testing.T) *arena.Arena[string] {
	t.Helper()
	a, e := arena.New[string](3)
	x, bad := a.Take("x")
	y, worse := a.Take("y")
	freed := a.Free(1025)
	z, worst := a.Take("z")
	if e != api.OK || bad != api.OK || worse != api.OK || freed != api.OK || worst != api.OK || x != 1025 || y != 1026 || z != 2049 {
		t.Fatalf("the references are %d, %d, %d", x, y, z)
	}
	return a
}

// Promise 9.1.
func TestNew(t *testing.T) {
	for _, n := range []int{-1, 1001, math.MinInt, math.MaxInt} {
		if a, e := arena.New[int](n); a != nil || e != api.ErrArg {
			t.Errorf("New(%d) = %v, %v", n, a, e)
		}
	}
	for _, n := range []int{0, 1, 1000} {
		a, e := arena.New[int](n)
		if e != api.OK || a.Used() != 0 || len(a.All()) != 0 {
			t.Fatalf("New(%d): %v, %d used", n, e, a.Used())
		}
		for i := range n {
			if r, e := a.Take(i); int(r) != 1025+i || e != api.OK {
				t.Fatalf("Take %d of %d: %d, %v", i, n, r, e)
			}
		}
		if r, e := a.Take(0); r != 0 || e != api.ErrFull || a.Used() != n {
			t.Errorf("Take with %d of %d used: %d, %v", a.Used(), n, r, e)
		}
	}
}

// Promises 9.1 and 9.2.
func TestExample(t *testing.T) {
	a := example(t)
	if e := a.Free(1025); e != api.ErrStale {
		t.Errorf("a second Free: %v", e)
	}
	if v, e := a.Get(2049); v != "z" || e != api.OK {
		t.Errorf("Get(2049) = %q, %v", v, e)
	}
	if e := a.Set(1026, "w"); e != api.OK {
		t.Errorf("Set(1026): %v", e)
	}
	if v, e := a.Get(1026); v != "w" || e != api.OK {
		t.Errorf("Get(1026) = %q, %v", v, e)
	}
	if !a.Live(2049) || a.Live(1025) {
		t.Error("Live")
	}
	if r, e := a.Take("q"); r != 1027 || e != api.OK || a.Used() != 3 || !slices.Equal(a.All(), []api.Ref{2049, 1026, 1027}) {
		t.Errorf("one more Take: %d, %v; %d used, %v", r, e, a.Used(), a.All())
	}
	if r, e := a.Take("q"); r != 0 || e != api.ErrFull {
		t.Errorf("a further Take: %d, %v", r, e)
	}
}

// Promises 9.1 and 9.2: what is not live.
func TestStale(t *testing.T) {
	a := example(t)
	for _, r := range []api.Ref{0, 1, 5, -1, 1024, 1025, 1027, 1028, 2050, 3073, math.MinInt, math.MaxInt} {
		before := a.All()
		v, got := a.Get(r)
		if set, free := a.Set(r, "no"), a.Free(r); v != "" || got != api.ErrStale || set != api.ErrStale || free != api.ErrStale || a.Live(r) {
			t.Errorf("reference %d: Get %q, %v, Set %v, Free %v, Live %v", r, v, got, set, free, a.Live(r))
		}
		if !slices.Equal(a.All(), before) {
			t.Errorf("reference %d changed the arena", r)
		}
	}
}

// Promise 9.1: the slot that was freed last comes first.
func TestNext(t *testing.T) {
	a, _ := arena.New[int](5)
	for i := range 4 {
		a.Take(i)
	}
	for _, r := range []api.Ref{1026, 1028, 1025} {
		a.Free(r)
	}
	for _, want := range []api.Ref{2049, 2052, 2050, 1029} {
		if r, e := a.Take(9); r != want || e != api.OK {
			t.Errorf("Take = %d, %v, want %d", r, e, want)
		}
	}
	if r, e := a.Take(9); r != 0 || e != api.ErrFull {
		t.Errorf("Take = %d, %v", r, e)
	}
}

// Promise 9.3.
func TestIncarnations(t *testing.T) {
	a, _ := arena.New[int](3)
	gone := map[api.Ref]bool{}
	for i := range 300 {
		r, e := a.Take(i)
		if gone[r] {
			t.Fatalf("reference %d is live again", r)
		}
		if e == api.ErrFull || i%3 == 1 {
			l := a.All()
			freed := l[i%len(l)]
			a.Free(freed)
			gone[freed] = true
		}
		if a.Used() != len(a.All()) {
			t.Fatalf("%d slots used, %v live", a.Used(), a.All())
		}
		slots := map[api.Ref]bool{}
		for _, r := range a.All() {
			if slots[r%1024] {
				t.Fatalf("two live references to a slot: %v", a.All())
			}
			slots[r%1024] = true
		}
		for r := range gone {
			if a.Live(r) {
				t.Fatalf("the freed reference %d is live", r)
			}
		}
	}
}

// Promises 9.1 and 9.2: an arena that New did not make.
func TestInvalid(t *testing.T) {
	for _, a := range []*arena.Arena[int]{nil, {}} {
		r, take := a.Take(1)
		v, get := a.Get(1025)
		if r != 0 || take != api.ErrForm || v != 0 || get != api.ErrForm || a.Set(1025, 1) != api.ErrForm || a.Free(1025) != api.ErrForm {
			t.Errorf("Take %d, %v; Get %d, %v", r, take, v, get)
		}
		if a.Live(1025) || a.Used() != 0 || len(a.All()) != 0 {
			t.Error("Live, Used or All of no arena")
		}
	}
}
