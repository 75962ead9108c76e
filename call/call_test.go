package call_test

import (
	"boscage/api"
	"boscage/call"
	"math"
	"strings"
	"testing"
)

// example makes the chapter's configuration.
func example() api.Config {
	return api.Config{Kind: api.Ctrie, Slots: 2, Threads: 3, Handles: 2, Bits: 1}
}

// used tells which fields each Op uses: K, V, O and H.
func used() map[int]string {
	return map[int]string{1: "K", 2: "KV", 3: "KV", 4: "KVO", 5: "K", 6: "K", 7: "", 8: "H", 9: "KH", 10: "H", 11: "KH", 12: "H", 13: "", 0: "", 14: "", -1: "", math.MaxInt: "", math.MinInt: ""}
}

// Promise 30.1.
func TestMay(t *testing.T) {
	c := func(kind, slots, threads, handles, bits int) api.Config {
		return api.Config{Kind: kind, Slots: slots, Threads: threads, Handles: handles, Bits: bits}
	}
	for _, x := range []struct {
		c    api.Config
		want api.Errno
	}{
		{example(), api.OK}, {c(1, 0, 1, 0, 0), api.OK}, {c(2, 1000, 64, 16, 64), api.OK}, {c(3, 1000, 64, 16, 64), api.OK},
		{c(0, 2, 1, 0, 1), api.ErrKind}, {c(4, -1, 1, 0, 1), api.ErrKind}, {api.Config{}, api.ErrKind}, {c(math.MinInt, 2, 1, 0, 1), api.ErrKind},
		{c(3, 2, 3, 2, 0), api.ErrArg}, {c(3, 1, 3, 2, 1), api.ErrArg}, {c(1, -1, 1, 0, 0), api.ErrArg}, {c(2, 1001, 1, 0, 0), api.ErrArg},
		{c(1, 5, 0, 0, 0), api.ErrArg}, {c(1, 5, 65, 0, 0), api.ErrArg}, {c(1, 5, -1, 0, 0), api.ErrArg}, {c(2, 5, 1, -1, 0), api.ErrArg}, {c(2, 5, 1, 17, 0), api.ErrArg}, {c(1, 5, 1, 0, -1), api.ErrArg}, {c(1, 5, 1, 0, 65), api.ErrArg},
	} {
		if e := call.May(x.c); e != x.want {
			t.Errorf("May(%v) = %v, want %v", x.c, e, x.want)
		}
		cells := 0
		if x.want == api.OK {
			cells = 2 + x.c.Threads + x.c.Handles
		}
		if n := call.Cells(x.c); n != cells {
			t.Errorf("Cells(%v) = %d", x.c, n)
		}
	}
}

// Promise 30.1.
func TestFits(t *testing.T) {
	long := strings.Repeat("k", 17)
	treap := api.Config{Kind: api.Treap}
	for _, x := range []struct {
		c    api.Config
		x    api.Call
		want api.Errno
	}{
		{example(), api.Call{Op: api.OpFloor}, api.ErrArg}, {api.Config{Kind: api.Hamt}, api.Call{Op: api.OpFloor, Key: long}, api.ErrArg}, {treap, api.Call{Op: api.OpFloor}, api.OK}, {treap, api.Call{Op: api.OpFloor, Key: long}, api.ErrLong},
		{example(), api.Call{Op: 14}, api.ErrKind}, {example(), api.Call{}, api.ErrKind}, {example(), api.Call{Op: -1, H: -1}, api.ErrKind}, {api.Config{}, api.Call{Op: api.OpGet}, api.ErrKind}, {api.Config{Kind: 4}, api.Call{Op: api.OpFloor}, api.ErrKind},
		{example(), api.Call{Op: api.OpSnap, Key: long}, api.OK}, {example(), api.Call{Op: api.OpFree, H: -1}, api.ErrHandle}, {example(), api.Call{Op: api.OpGet, H: -1}, api.OK}, {example(), api.Call{Op: api.OpFree, H: math.MaxInt}, api.OK},
		{example(), api.Call{Op: api.OpGetAt, Key: long, H: -1}, api.ErrLong}, {example(), api.Call{Op: api.OpGetAt, H: -1}, api.ErrHandle},
		{example(), api.Call{Op: api.OpSwap, Key: long[1:], Val: long[1:], Old: long[1:]}, api.OK}, {example(), api.Call{Op: api.OpSwap, Old: long}, api.ErrLong}, {example(), api.Call{Op: api.OpPut, Old: long}, api.OK},
	} {
		if e := call.Fits(x.c, x.x); e != x.want {
			t.Errorf("Fits(%v, %v) = %v, want %v", x.c.Kind, x.x, e, x.want)
		}
	}
	for op, fields := range used() {
		for _, kind := range []int{api.Hamt, api.Treap, api.Ctrie} {
			c := api.Config{Kind: kind}
			if op == api.OpFloor && kind != api.Treap || op < 1 || op > 13 {
				continue
			}
			for field, x := range map[string]api.Call{"K": {Op: op, Key: long}, "V": {Op: op, Val: long}, "O": {Op: op, Old: long}, "H": {Op: op, H: -1}} {
				want := api.OK
				if strings.Contains(fields, field) {
					want = api.ErrLong
					if field == "H" {
						want = api.ErrHandle
					}
				}
				if e := call.Fits(c, x); e != want {
					t.Errorf("Op %d with a wrong %s: %v", op, field, e)
				}
				if call.Fits(c, call.Plain(x)) != call.Fits(c, x) {
					t.Errorf("Op %d with a wrong %s: its plain form fits otherwise", op, field)
				}
			}
		}
	}
}

// Promises 30.1 and 30.3.
func TestPlain(t *testing.T) {
	for op, fields := range used() {
		want := api.Call{Op: op}
		for _, f := range fields {
			switch f {
			case 'K':
				want.Key = "k"
			case 'V':
				want.Val = "v"
			case 'O':
				want.Old = "o"
			case 'H':
				want.H = 3
			}
		}
		got := call.Plain(api.Call{Op: op, Key: "k", Val: "v", Old: "o", H: 3})
		if got != want || call.Plain(got) != got || call.Held(op) != strings.Contains(fields, "H") {
			t.Errorf("Plain of Op %d = %v, Held %v", op, got, call.Held(op))
		}
	}
}

// Promises 30.2 and 30.3.
func TestCells(t *testing.T) {
	c := example()
	if call.Cells(c) != 7 || call.Note(2) != 4 || call.Handle(c, 1) != 6 {
		t.Error("the chapter's examples")
	}
	for _, x := range [][2]int{{0, 2}, {63, 65}, {64, 2}, {-1, 2}, {math.MaxInt, 2}, {math.MinInt, 2}} {
		if got := call.Note(x[0]); got != x[1] {
			t.Errorf("Note(%d) = %d", x[0], got)
		}
	}
	for _, x := range [][3]int{{3, 0, 5}, {64, 0, 66}, {65, 1, 3}, {0, 1, 3}, {-1, 5, 7}, {math.MaxInt, math.MaxInt, 2}, {3, 64, 5}, {3, 63, 68}, {3, -1, 5}} {
		if got := call.Handle(api.Config{Threads: x[0]}, x[1]); got != x[2] {
			t.Errorf("Handle of %d threads, %d = %d", x[0], x[1], got)
		}
	}
	for _, c := range []api.Config{{Kind: 1, Threads: 1}, example(), {Kind: 2, Threads: 64, Handles: 16}} {
		purpose := map[int]bool{0: true, 1: true}
		for i := range c.Threads {
			purpose[call.Note(i)] = true
		}
		for i := range c.Handles {
			purpose[call.Handle(c, i)] = true
		}
		if len(purpose) != call.Cells(c) || !purpose[call.Cells(c)-1] {
			t.Errorf("%v: %d purposes of %d cells", c, len(purpose), call.Cells(c))
		}
	}
}
