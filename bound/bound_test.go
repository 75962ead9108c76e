package bound_test

import (
	"boscage/api"
	"boscage/bound"
	"boscage/world"
	"math"
	"slices"
	"strconv"
	"testing"
)

func config(kind, slots, threads, handles, bits int) api.Config {
	return api.Config{Kind: kind, Slots: slots, Threads: threads, Handles: handles, Bits: bits}
}

// Promise 40.1.
func TestBounds(t *testing.T) {
	for _, c := range []struct {
		c           api.Config
		n           int
		steps, read int
		nodes, room int
	}{
		{config(api.Treap, 9, 1, 0, 6), 5, 3600000, 13, 5, 35}, {config(api.Hamt, 9, 1, 0, 6), 5, 3600000, 13, 15, 25}, {config(api.Ctrie, 9, 1, 0, 6), 5, 3600000, 13, 32, 2 + 5*9*16},
		{config(api.Treap, 9, 1, 0, 6), 4, 3600000, 13, 4, 24}, {config(api.Hamt, 9, 1, 0, 6), 4, 3600000, 13, 12, 20}, {config(api.Ctrie, 9, 1, 0, 6), 4, 3600000, 13, 26, 514},
		{config(api.Hamt, 0, 1, 0, 0), 0, 1000 * 9 * 11 * 11, 4, 0, 0}, {config(api.Ctrie, 2, 1, 0, 1), 0, 1000 * 9 * 13 * 13, 6, 2, 2},
		{config(api.Ctrie, 1000, 64, 16, 64), 10000, 1000 * 66 * 66 * 1090 * 1090, 1004, 2 + 10000*28, 2 + 10000*10004*60},
		{config(api.Treap, 1000, 64, 16, 64), 10000, 1000 * 66 * 66 * 1090 * 1090, 1004, 10000, 100020000},
	} {
		steps, a := bound.Steps(c.c)
		read, b := bound.Read(c.c)
		nodes, d := bound.Nodes(c.c, c.n)
		room, e := bound.Room(c.c, c.n)
		if steps != c.steps || read != c.read || nodes != c.nodes || room != c.room || a+b+d+e != api.OK {
			t.Errorf("%v, %d: %d, %d, %d, %d", c.c, c.n, steps, read, nodes, room)
		}
	}
}

// Promise 40.1: errors.
func TestErrors(t *testing.T) {
	for _, c := range []struct {
		c    api.Config
		n    int
		want api.Errno
		only bool
	}{
		{api.Config{}, -1, api.ErrKind, false}, {api.Config{Kind: api.Hamt}, 1, api.ErrArg, false}, {config(api.Ctrie, 1, 1, 0, 1), 10001, api.ErrArg, false},
		{config(api.Treap, 9, 1, 0, 6), -1, api.ErrArg, true}, {config(api.Treap, 9, 1, 0, 6), 10001, api.ErrArg, true}, {config(api.Ctrie, 9, 1, 0, 6), math.MaxInt, api.ErrArg, true}, {config(api.Hamt, 9, 1, 0, 6), math.MinInt, api.ErrArg, true},
	} {
		nodes, a := bound.Nodes(c.c, c.n)
		room, b := bound.Room(c.c, c.n)
		steps, d := bound.Steps(c.c)
		read, e := bound.Read(c.c)
		if nodes+room != 0 || a != c.want || b != c.want || !c.only && (steps+read != 0 || d != c.want || e != c.want) || c.only && (d != api.OK || e != api.OK) {
			t.Errorf("%v, %d: %v, %v, %v, %v", c.c, c.n, a, b, d, e)
		}
	}
}

// dice is a generator of numbers that are the same in each run.
type dice uint64

func (d *dice) roll(n int) int {
	*d = *d*6364136223846793005 + 1442695040888963407
	return int(uint64(*d)>>33) % n
}

// Promise 40.2: answers within Steps, reads within Read, no ErrFull with enough room, and few nodes after a sweep.
func TestWorlds(t *testing.T) {
	for seed := range 120 {
		d := dice(seed)
		calls := 6 + d.roll(4)
		c := config(1+seed%3, 0, 1+d.roll(4), 2, []int{1, 5, 6}[seed/3%3])
		c.Slots = 2
		c.Slots, _ = bound.Room(c, calls)
		if c.Slots > 1000 {
			continue
		}
		w, e := world.New(c)
		if e != api.OK {
			t.Fatal(e)
		}
		begun, idle := 0, 0
		reading := map[int]int{}
		for begun < calls || len(w.Pending()) > 0 {
			x := api.Call{Op: 1 + d.roll(13), Key: strconv.Itoa(d.roll(4)), Val: strconv.Itoa(d.roll(2)), Old: "0"}
			if l := w.Given(); len(l) > 0 {
				x.H = l[d.roll(len(l))]
			}
			i := d.roll(c.Threads)
			if begun == calls && !slices.Contains(w.Pending(), i) {
				continue
			}
			switch w.Do(api.Entry{T: i, C: x}) {
			case world.Begun:
				begun++
				reading[i] = 0
			case world.Gone:
				idle++
				reading[i]++
			case world.Ended:
				idle = 0
				reading[i]++
				h := w.History()
				last := h[len(h)-1]
				if most, _ := bound.Read(c); last.C.Op >= api.OpGetAt && last.C.Op <= api.OpSizeAt && reading[i] > most {
					t.Errorf("seed %d: a read took %d steps", seed, reading[i])
				}
				if last.A.Code == api.ErrFull && last.C.Op != api.OpSnap {
					t.Errorf("seed %d: %v with %d slots", seed, last, c.Slots)
				}
			}
			if most, _ := bound.Steps(c); idle > most {
				t.Fatalf("seed %d: no answer after %d steps", seed, idle)
			}
		}
		for _, id := range w.Given() {
			alone(w, api.Call{Op: api.OpFree, H: id})
		}
		alone(w, api.Call{Op: api.OpSweep})
		g := w.Ground()
		l, _ := g.Binds(g.M.Peek(0).Ref)
		if most, _ := bound.Nodes(c, len(l)); g.M.Used() > most {
			t.Errorf("seed %d: %d slots used for %d bindings", seed, g.M.Used(), len(l))
		}
	}
}

// alone executes an operation to its end.
func alone(w *world.World, x api.Call) {
	for w.Do(api.Entry{C: x}) != world.Ended {
	}
}
