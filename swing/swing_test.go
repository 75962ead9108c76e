package swing_test

import (
	"boscage/api"
	"boscage/ground"
	"boscage/hash"
	"boscage/hist"
	"boscage/lin"
	"boscage/model"
	"boscage/swing"
	"math"
	"slices"
	"strconv"
	"strings"
	"testing"
)

func config(kind, slots, threads, bits int) api.Config {
	return api.Config{Kind: kind, Slots: slots, Threads: threads, Handles: 1, Bits: bits}
}

func make1(t *testing.T, c api.Config) *ground.Ground {
	t.Helper()
	g, e := ground.New(c)
	if e != api.OK {
		t.Fatal(e)
	}
	return g
}

func yes(val string) api.Answer { return api.Answer{Has: true, Val: val} }

// bound returns the bindings of the map.
func bound(t *testing.T, g *ground.Ground) []api.Pair {
	t.Helper()
	l, ok := g.Binds(g.M.Peek(0).Ref)
	if !ok {
		t.Fatal("a node of the map is not live")
	}
	return l
}

// dice is a generator of numbers that are the same in each run.
type dice uint64

func (d *dice) roll(n int) int {
	*d = *d*6364136223846793005 + 1442695040888963407
	return int(uint64(*d)>>33) % n
}

// Promise 35.1: the chapter's example.
func TestExample(t *testing.T) {
	for _, kind := range []int{api.Hamt, api.Treap} {
		g := make1(t, config(kind, 50, 1, 4))
		for i, c := range []struct {
			x    api.Call
			want api.Answer
		}{
			{api.Call{Op: api.OpPut, Key: "a", Val: "1"}, api.Answer{}},
			{api.Call{Op: api.OpAdd, Key: "b", Val: "2"}, api.Answer{}},
			{api.Call{Op: api.OpAdd, Key: "a", Val: "9"}, yes("1")},
			{api.Call{Op: api.OpSwap, Key: "b", Val: "3", Old: "2"}, yes("2")},
			{api.Call{Op: api.OpDrop, Key: "a"}, yes("1")},
			{api.Call{Op: api.OpGet, Key: "b"}, yes("3")},
			{api.Call{Op: api.OpGet, Key: "a"}, api.Answer{}},
		} {
			before := g.Steps()
			a, steps, e := swing.Run(g, 0, c.x)
			if a != c.want || e != api.OK || steps != g.Steps()-before || i == 0 && steps != 8 {
				t.Errorf("kind %d, operation %d: %v, %d steps, %v", kind, i, a, steps, e)
			}
		}
		if l := bound(t, g); !slices.Equal(l, []api.Pair{{Key: "b", Val: "3"}}) || g.M.Peek(0).Tag != 4 || g.M.Peek(2) != (api.Word{}) {
			t.Errorf("kind %d: %v, version %d, note %v", kind, l, g.M.Peek(0).Tag, g.M.Peek(2))
		}
	}
}

// Promises 35.1 and 35.2: the words of each step of an OpPut.
func TestSteps(t *testing.T) {
	g := make1(t, config(api.Hamt, 9, 2, 64))
	s, e := swing.New(g, 1, api.Call{Op: api.OpPut, Key: "a", Val: "1"})
	if e != api.OK || g.Steps() != 0 {
		t.Fatal(e, g.Steps())
	}
	for i := range 8 {
		note := api.Word{}
		if i >= 2 {
			note.Tag = 1
		}
		root := api.Word{}
		if i >= 5 {
			root = api.Word{Ref: 1025, Tag: 1}
		}
		if g.M.Peek(3) != note || g.M.Peek(0) != root || g.Steps() != i {
			t.Errorf("before step %d: note %v, root %v, %d steps", i, g.M.Peek(3), g.M.Peek(0), g.Steps())
		}
		a, done := s.Step()
		if a != (api.Answer{}) || done != (i == 7) {
			t.Errorf("step %d: %v, %v", i, a, done)
		}
	}
	if n, _ := g.M.Look(1025); n.Birth != 1 || g.M.Peek(3) != (api.Word{}) {
		t.Errorf("the node is %v", n)
	}
	for range 3 {
		if a, done := s.Step(); a != (api.Answer{}) || !done || g.Steps() != 8 {
			t.Errorf("after its end: %v, %v", a, done)
		}
	}
	swing.Run(g, 0, api.Call{Op: api.OpPut, Key: "a", Val: "2"})
	l := g.X.All()
	if len(l) != 1 || l[0].Stamp != 1 || l[0].Death != 2 || len(l[0].L) != 1 || l[0].L[0].Ref != 1025 || l[0].L[0].Birth != 1 {
		t.Errorf("the lists contain %v", l)
	}
	var none *swing.Swing
	if a, done := none.Step(); a != (api.Answer{}) || !done {
		t.Error("a nil operation")
	}
}

// Promise 35.1: errors.
func TestErrors(t *testing.T) {
	g, other := make1(t, config(api.Hamt, 9, 1, 4)), make1(t, config(api.Ctrie, 9, 1, 4))
	long := strings.Repeat("k", 17)
	get := api.Call{Op: api.OpGet}
	for i, c := range []struct {
		g    *ground.Ground
		t    int
		x    api.Call
		want api.Errno
	}{
		{nil, 9, api.Call{}, api.ErrForm}, {&ground.Ground{}, 0, get, api.ErrForm}, {&ground.Ground{C: g.C}, 0, get, api.ErrForm},
		{other, 0, get, api.ErrArg}, {g, 1, api.Call{}, api.ErrArg}, {g, -1, get, api.ErrArg}, {g, math.MaxInt, get, api.ErrArg},
		{g, 0, api.Call{Op: api.OpSnap, Key: long}, api.ErrKind}, {g, 0, api.Call{}, api.ErrKind}, {g, 0, api.Call{Op: 14}, api.ErrKind}, {g, 0, api.Call{Op: api.OpSweep}, api.ErrKind}, {g, 0, api.Call{Op: -1}, api.ErrKind},
		{g, 0, api.Call{Op: api.OpFloor, Key: long}, api.ErrArg}, {g, 0, api.Call{Op: api.OpGet, Key: long}, api.ErrLong}, {g, 0, api.Call{Op: api.OpSwap, Old: long}, api.ErrLong},
	} {
		s, e := swing.New(c.g, c.t, c.x)
		a, steps, code := swing.Run(c.g, c.t, c.x)
		if s != nil || e != c.want || a != (api.Answer{}) || steps != 0 || code != c.want || g.Steps()+other.Steps() != 0 {
			t.Errorf("case %d: New %v, Run %v, %d, %v", i, e, a, steps, code)
		}
	}
	if _, e := swing.New(g, 0, api.Call{Op: api.OpGet, Val: long, Old: long, H: -1}); e != api.OK {
		t.Errorf("fields that are not used: %v", e)
	}
}

// Promise 35.2: ErrFull changes nothing.
func TestFull(t *testing.T) {
	g := make1(t, config(api.Treap, 1, 1, 0))
	if a, steps, _ := swing.Run(g, 0, api.Call{Op: api.OpPut, Key: "a", Val: "1"}); a != (api.Answer{}) || steps != 8 {
		t.Errorf("OpPut of a: %v, %d steps", a, steps)
	}
	if a, _, _ := swing.Run(g, 0, api.Call{Op: api.OpPut, Key: "b", Val: "1"}); a != (api.Answer{Code: api.ErrFull}) {
		t.Errorf("OpPut of b: %v", a)
	}
	if a, _, _ := swing.Run(g, 0, api.Call{Op: api.OpFloor, Key: "z"}); a != (api.Answer{Has: true, Key: "a", Val: "1"}) {
		t.Errorf("OpFloor of z: %v", a)
	}
	for _, kind := range []int{api.Hamt, api.Treap} {
		for slots := range 25 {
			g := make1(t, config(kind, slots, 1, 10))
			d := dice(slots)
			for range 60 {
				x := api.Call{Op: api.OpPut + d.roll(4), Key: strconv.Itoa(d.roll(9)), Val: "v", Old: "v"}
				live, root, groups, l := g.M.All(), g.M.Peek(0), g.X.All(), bound(t, g)
				a, _, _ := swing.Run(g, 0, x)
				if a.Code == api.OK {
					continue
				}
				need := hash.Levels(10) + 2
				if kind == api.Treap {
					need = len(l) + 2
				}
				if a != (api.Answer{Code: api.ErrFull}) || slots-len(live) >= need || !slices.Equal(g.M.All(), live) || g.M.Peek(0) != root || len(g.X.All()) != len(groups) || g.M.Peek(2) != (api.Word{}) {
					t.Fatalf("kind %d, %d of %d slots used, %v: %v", kind, len(live), slots, x, a)
				}
			}
		}
	}
}

// Promises 35.2 and 35.4: one operation after the other.
func TestAlone(t *testing.T) {
	for _, kind := range []int{api.Hamt, api.Treap} {
		for _, bits := range []int{0, 1, 6, 64} {
			c := config(kind, 1000, 2, bits)
			g := make1(t, c)
			var s model.State
			d := dice(bits)
			for range 70 {
				x := api.Call{Op: 1 + d.roll(6), Key: strconv.Itoa(d.roll(12)), Val: strconv.Itoa(d.roll(3)), Old: strconv.Itoa(d.roll(3))}
				if x.Op == api.OpFloor && kind == api.Hamt {
					continue
				}
				want, _ := model.Answer(c, s, x)
				version := g.M.Peek(0).Tag
				most := 20 + 4*hash.Levels(bits)
				if kind == api.Treap {
					most = 20 + 4*len(s.L)
				}
				a, steps, e := swing.Run(g, d.roll(2), x)
				next, _ := model.Step(c, s, x, a)
				binds := x.Op == api.OpPut || x.Op == api.OpAdd && !a.Has || x.Op == api.OpSwap && a.Has && a.Val == x.Old || x.Op == api.OpDrop && a.Has
				if a != want || e != api.OK || steps > most || !slices.Equal(bound(t, g), next.L) || (g.M.Peek(0).Tag == version+1) != binds || !binds && g.M.Peek(0).Tag != version {
					t.Fatalf("kind %d, %d bits, %v: %v, %d steps, version %d after %d; want %v", kind, bits, x, a, steps, g.M.Peek(0).Tag, version, want)
				}
				s = next
			}
			checkRetired(t, g)
		}
	}
}

// checkRetired checks that what is live and not reachable is in the lists, once.
func checkRetired(t *testing.T, g *ground.Ground) {
	t.Helper()
	reach, stale := g.Reach()
	var retired []api.Ref
	for _, group := range g.X.All() {
		for _, x := range group.L {
			if n, _ := g.M.Look(x.Ref); n.Birth != x.Birth {
				t.Errorf("%v was retired with the Birth %d", n, x.Birth)
			}
			retired = append(retired, x.Ref)
		}
	}
	all := append(slices.Clone(reach), retired...)
	live := g.M.All()
	slices.Sort(all)
	slices.Sort(live)
	if stale != 0 || !slices.Equal(all, live) || g.M.Faults() != 0 {
		t.Errorf("live %v, reachable %v, retired %v, %d stale, %d faults", live, reach, retired, stale, g.M.Faults())
	}
}

// Promises 35.3 and 35.4: any interleaving.
func TestInterleaved(t *testing.T) {
	for seed := range 300 {
		d := dice(seed)
		kind := api.Hamt + seed%2
		c := config(kind, 20+d.roll(80), 3, []int{0, 3, 64}[seed%3])
		g := make1(t, c)
		var h []api.Event
		active := map[int]*swing.Swing{}
		calls := map[int]api.Call{}
		begun := 0
		for begun < 14 || len(active) > 0 {
			i := d.roll(3)
			s, is := active[i]
			if !is {
				x := api.Call{Op: 1 + d.roll(5+kind-api.Hamt), Key: strconv.Itoa(d.roll(3)), Val: strconv.Itoa(d.roll(3)), Old: strconv.Itoa(d.roll(3))}
				if begun < 14 {
					active[i], _ = swing.New(g, i, x)
					calls[i] = x
					h, _ = hist.Add(h, i, x)
					begun++
				}
				continue
			}
			before := g.Steps()
			a, done := s.Step()
			if g.Steps() != before+1 {
				t.Fatalf("a step took %d accesses", g.Steps()-before)
			}
			if done {
				delete(active, i)
				h, _ = hist.End(h, i, a)
			}
		}
		if _, ok, e := lin.Check(c, h); !ok || e != api.OK {
			t.Fatalf("seed %d: not linearizable: %v, %v", seed, h, e)
		}
		// The map must be that of some order: a last read of all keys makes it part of the history.
		for _, p := range []string{"0", "1", "2"} {
			x := api.Call{Op: api.OpGet, Key: p}
			h, _ = hist.Add(h, 0, x)
			a, _, _ := swing.Run(g, 0, x)
			h, _ = hist.End(h, 0, a)
		}
		if _, ok, _ := lin.Check(c, h); !ok {
			t.Fatalf("seed %d: the map is that of no order: %v", seed, h)
		}
		checkRetired(t, g)
	}
}

// Promise 35.3: two threads load the same root; the one whose Cas fails frees its node and starts again.
func TestRace(t *testing.T) {
	g := make1(t, config(api.Treap, 9, 2, 0))
	x := api.Call{Op: api.OpPut, Key: "a", Val: "1"}
	first, _ := swing.New(g, 0, x)
	second, _ := swing.New(g, 1, x)
	for range 4 {
		first.Step()
		second.Step()
	}
	if g.M.Used() != 2 {
		t.Errorf("%d nodes allocated", g.M.Used())
	}
	for range 3 {
		first.Step()
	}
	if a, done := first.Step(); a != (api.Answer{}) || !done {
		t.Errorf("the first: %v, %v", a, done)
	}
	second.Step()
	if g.M.Used() != 2 || g.M.Peek(0).Tag != 1 {
		t.Error("the second Cas succeeds")
	}
	second.Step()
	if g.M.Used() != 1 {
		t.Error("the second does not free its node")
	}
	for i := range 20 {
		if a, done := second.Step(); done {
			if a != yes("1") || i != 6 {
				t.Errorf("the second: %v after %d more steps", a, i+1)
			}
			break
		}
	}
	checkRetired(t, g)
}
