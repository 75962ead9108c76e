package ref_test

import (
	"boscage/api"
	"boscage/ref"
	"math"
	"testing"
)

const maxInc = 1 << 52

// Promises 8.1 and 8.3.
func TestMake(t *testing.T) {
	for _, slot := range []int{1, 2, 3, 999, 1000} {
		for _, inc := range []int{1, 2, 1000, maxInc - 1, maxInc} {
			r, e := ref.Make(slot, inc)
			if e != api.OK || int(r) != 1024*inc+slot || ref.Kind(r) != ref.Old || ref.Slot(r) != slot || ref.Inc(r) != inc {
				t.Errorf("Make(%d, %d) = %d, %v: slot %d, incarnation %d", slot, inc, r, e, ref.Slot(r), ref.Inc(r))
			}
		}
	}
	for _, c := range []struct {
		slot, inc int
		want      api.Errno
	}{{1001, 0, api.ErrArg}, {1001, 1, api.ErrArg}, {0, 1, api.ErrArg}, {-1, 1, api.ErrArg}, {math.MinInt, math.MinInt, api.ErrArg}, {5, 0, api.ErrRange}, {5, -1, api.ErrRange}, {5, maxInc + 1, api.ErrRange}, {1, math.MaxInt, api.ErrRange}} {
		if r, e := ref.Make(c.slot, c.inc); r != 0 || e != c.want {
			t.Errorf("Make(%d, %d) = %d, %v", c.slot, c.inc, r, e)
		}
	}
}

// Promises 8.1 and 8.3.
func TestKind(t *testing.T) {
	for r, want := range map[api.Ref]int{0: ref.None, 2051: ref.Old, 1025: ref.Old, 2024: ref.Old, 1024: ref.Odd, 2025: ref.Odd, 2047: ref.Odd, 2048: ref.Odd, 5: ref.Odd, 1000: ref.Odd, 1: ref.Odd, 1023: ref.Odd, -4: ref.Fresh, -1: ref.Fresh, math.MinInt: ref.Fresh, math.MaxInt: ref.Odd, 1024*maxInc + 1000: ref.Old, 1024*maxInc + 1001: ref.Odd, 1024*(maxInc+1) + 1: ref.Odd} {
		if got := ref.Kind(r); got != want {
			t.Errorf("Kind(%d) = %d, want %d", r, got, want)
		}
		if want != ref.Old && (ref.Slot(r) != 0 || ref.Inc(r) != 0) {
			t.Errorf("Slot(%d) = %d, Inc = %d", r, ref.Slot(r), ref.Inc(r))
		}
		if i, ok := ref.Which(r); ok != (want == ref.Fresh) || !ok && i != 0 {
			t.Errorf("Which(%d) = %d, %v", r, i, ok)
		}
	}
	if ref.None != 0 || ref.Old != 1 || ref.Fresh != 2 || ref.Odd != 3 {
		t.Error("the kinds have other numbers")
	}
}

// Promises 8.2 and 8.3.
func TestNew(t *testing.T) {
	for _, i := range []int{0, 1, 2, 1000, math.MaxInt - 1, math.MaxInt} {
		r := ref.New(i)
		if back, ok := ref.Which(r); int(r) != -i-1 || back != i || !ok {
			t.Errorf("New(%d) = %d, Which of it %d, %v", i, r, back, ok)
		}
	}
	for _, i := range []int{-1, -2, math.MinInt} {
		if r := ref.New(i); r != 0 {
			t.Errorf("New(%d) = %d", i, r)
		}
	}
}
