package hand_test

import (
	"boscage/api"
	"boscage/call"
	"boscage/climb"
	"boscage/ground"
	"boscage/hand"
	"boscage/hist"
	"boscage/lin"
	"boscage/model"
	"boscage/swing"
	"math"
	"slices"
	"strconv"
	"strings"
	"testing"
)

func config(kind, slots, threads, handles, bits int) api.Config {
	return api.Config{Kind: kind, Slots: slots, Threads: threads, Handles: handles, Bits: bits}
}

func lay(t *testing.T, c api.Config) *ground.Ground {
	t.Helper()
	g, e := ground.New(c)
	if e != api.OK {
		t.Fatal(e)
	}
	return g
}

func yes(val string) api.Answer       { return api.Answer{Has: true, Val: val} }
func pair(key, val string) api.Answer { return api.Answer{Has: true, Key: key, Val: val} }

// operation is what the packages of operations have in common.
type operation interface {
	Step() (api.Answer, bool)
}

// begin makes an operation of any kind.
func begin(g *ground.Ground, t int, x api.Call) (operation, api.Errno) {
	switch {
	case x.Op >= api.OpSnap:
		return hand.New(g, t, x)
	case g.C.Kind == api.Ctrie:
		return climb.New(g, t, x)
	}
	return swing.New(g, t, x)
}

// run executes an operation of any kind.
func run(t *testing.T, g *ground.Ground, x api.Call) (api.Answer, int) {
	t.Helper()
	s, e := begin(g, 0, x)
	if e != api.OK {
		t.Fatal(x, e)
	}
	for steps := 1; ; steps++ {
		before := g.Steps()
		a, done := s.Step()
		if g.Steps() != before+1 {
			t.Fatalf("a step of %v took %d accesses", x, g.Steps()-before)
		}
		if done {
			return a, steps
		}
	}
}

// dice is a generator of numbers that are the same in each run.
type dice uint64

func (d *dice) roll(n int) int {
	*d = *d*6364136223846793005 + 1442695040888963407
	return int(uint64(*d)>>33) % n
}

// checkRetired checks that what is live and not reachable is in the lists, and nothing is there twice.
func checkRetired(t *testing.T, g *ground.Ground) {
	t.Helper()
	reach, stale := g.Reach()
	var retired []api.Ref
	for _, group := range g.X.All() {
		for _, x := range group.L {
			if n, _ := g.M.Look(x.Ref); n.Birth != x.Birth {
				t.Errorf("%v was retired with the Birth %d", n, x.Birth)
			}
			if slices.Contains(retired, x.Ref) {
				t.Errorf("%d was retired twice", x.Ref)
			}
			retired = append(retired, x.Ref)
		}
	}
	for _, r := range g.M.All() {
		if !slices.Contains(reach, r) && !slices.Contains(retired, r) {
			t.Errorf("%d is neither reachable nor retired", r)
		}
	}
	if stale != 0 || g.M.Faults() != 0 {
		t.Errorf("%d stale references, %d faults", stale, g.M.Faults())
	}
}

// Promise 37.2: the chapter's example, on each kind of map where its order is the same.
func TestExample(t *testing.T) {
	gone := api.Answer{Code: api.ErrHandle}
	for _, kind := range []int{api.Hamt, api.Treap, api.Ctrie} {
		g := lay(t, config(kind, 200, 1, 2, 64))
		run(t, g, api.Call{Op: api.OpPut, Key: "a", Val: "1"})
		run(t, g, api.Call{Op: api.OpPut, Key: "c", Val: "2"})
		snap := api.Call{Op: api.OpSnap}
		for i, c := range []struct {
			x    api.Call
			want api.Answer
		}{
			{snap, api.Answer{N: 0}},
			{api.Call{Op: api.OpPut, Key: "b", Val: "3"}, api.Answer{}}, {api.Call{Op: api.OpPut, Key: "a", Val: "9"}, yes("1")},
			{api.Call{Op: api.OpGetAt, Key: "a"}, yes("1")}, {api.Call{Op: api.OpGetAt, Key: "b"}, api.Answer{}},
			{api.Call{Op: api.OpFirstAt}, pair("a", "1")}, {api.Call{Op: api.OpNextAt, Key: "a"}, pair("c", "2")}, {api.Call{Op: api.OpNextAt, Key: "c"}, api.Answer{}},
			{api.Call{Op: api.OpSizeAt}, api.Answer{N: 2}},
			{snap, api.Answer{N: 1}}, {snap, api.Answer{Code: api.ErrFull}},
			{api.Call{Op: api.OpSizeAt, H: 1}, api.Answer{N: 3}},
			{api.Call{Op: api.OpFree}, api.Answer{}}, {api.Call{Op: api.OpFree}, gone}, {api.Call{Op: api.OpSizeAt}, gone}, {api.Call{Op: api.OpGetAt, Key: "a"}, gone},
			{snap, api.Answer{N: 2}}, {api.Call{Op: api.OpFree, H: 4}, gone}, {api.Call{Op: api.OpSizeAt, H: 2}, api.Answer{N: 3}},
		} {
			l, _ := g.Binds(g.M.Peek(0).Ref)
			a, _ := run(t, g, c.x)
			m, ok := g.Binds(g.M.Peek(0).Ref)
			// In the order of hashes, c comes before a.
			want := c.want
			if kind != api.Treap && c.x.Op == api.OpFirstAt && model.Before(g.C, "c", "a") {
				want = pair("c", "2")
			} else if kind != api.Treap && c.x.Op == api.OpNextAt && model.Before(g.C, "c", "a") {
				want = map[string]api.Answer{"a": {}, "c": pair("a", "1")}[c.x.Key]
			}
			if a != want || !ok || c.x.Op != api.OpPut && !slices.Equal(l, m) || g.M.Peek(2) != (api.Word{}) {
				t.Errorf("kind %d, operation %d: %v, want %v; bindings %v", kind, i, a, want, m)
			}
		}
		checkRetired(t, g)
	}
}

// Promise 37.2: no handles, and no slots.
func TestFull(t *testing.T) {
	full := api.Answer{Code: api.ErrFull}
	for _, kind := range []int{api.Hamt, api.Treap, api.Ctrie} {
		g := lay(t, config(kind, 9, 1, 0, 4))
		if a, steps := run(t, g, api.Call{Op: api.OpSnap}); a != full || steps != 4 && kind != api.Ctrie || steps != 3 && kind == api.Ctrie {
			t.Errorf("kind %d without handles: %v, %d steps", kind, a, steps)
		}
		g = lay(t, config(kind, 9, 1, 2, 4))
		for i, want := range []api.Answer{{N: 0}, {N: 1}, full} {
			if a, _ := run(t, g, api.Call{Op: api.OpSnap}); a != want {
				t.Errorf("kind %d, OpSnap %d: %v", kind, i, a)
			}
		}
	}
	g := lay(t, config(api.Ctrie, 2, 1, 1, 4))
	if a, _ := run(t, g, api.Call{Op: api.OpSnap}); a != full || g.M.Peek(3) != (api.Word{Tag: -1}) || g.M.Used() != 2 {
		t.Errorf("a Ctrie with 2 slots: %v, the handle %v", a, g.M.Peek(3))
	}
	if a, steps := run(t, lay(t, config(api.Hamt, 9, 1, 1, 4)), api.Call{Op: api.OpSnap}); a != (api.Answer{}) || steps != 6 {
		t.Errorf("OpSnap: %v, %d steps", a, steps)
	}
}

// Promise 37.2: what an OpSnap leaves in the memory on its way, in another epoch.
func TestSnapSteps(t *testing.T) {
	for _, kind := range []int{api.Treap, api.Ctrie} {
		g := lay(t, config(kind, 20, 2, 2, 4))
		g.M.Store(1, api.Word{Tag: 7})
		run(t, g, api.Call{Op: api.OpPut, Key: "a", Val: "1"})
		root, groups := g.M.Peek(0), len(g.X.All())
		steps := 6
		held := api.Word{Ref: root.Ref, Tag: root.Tag}
		if kind == api.Ctrie {
			steps = 12
		}
		s, _ := hand.New(g, 1, api.Call{Op: api.OpSnap})
		for i := range steps {
			note, handle := api.Word{}, api.Word{Tag: -1, Id: -2}
			if i >= 2 {
				note.Tag = 7
			}
			switch {
			case kind == api.Treap && i >= 5, kind == api.Ctrie && i >= 9:
				handle = held
			case kind == api.Ctrie && i >= 4:
				handle = api.Word{Tag: -2}
			}
			if turned := g.M.Peek(0) != root; g.M.Peek(3) != note || g.M.Peek(4) != handle || turned != (kind == api.Ctrie && i >= 8) || (len(g.X.All()) > groups) != (i >= 11) {
				t.Errorf("kind %d, before step %d: note %v, handle %v, root %v", kind, i, g.M.Peek(3), g.M.Peek(4), g.M.Peek(0))
			}
			if a, done := s.Step(); a != (api.Answer{}) || done != (i == steps-1) {
				t.Errorf("kind %d, step %d: %v, %v", kind, i, a, done)
			}
		}
		if kind == api.Treap {
			continue
		}
		top, _ := g.M.Look(g.M.Peek(0).Ref)
		old, _ := g.M.Look(root.Ref)
		l := g.X.All()[groups:]
		if g.M.Peek(0).Tag != 1 || top.Birth != 1 || top.Main != old.Main || len(l) != 1 || l[0].Stamp != 7 || l[0].Death != 1 || len(l[0].L) != 1 || l[0].L[0].Ref != root.Ref {
			t.Errorf("the new root is %v, the lists contain %v", top, l)
		}
	}
}

// Promises 37.2 and 37.3: what an OpGetAt leaves in the memory on its way, and an OpFree between its steps.
func TestReadSteps(t *testing.T) {
	for _, kind := range []int{api.Hamt, api.Treap, api.Ctrie} {
		g := lay(t, config(kind, 20, 2, 2, 4))
		for range 3 {
			run(t, g, api.Call{Op: api.OpPut, Key: "a", Val: "1"})
		}
		run(t, g, api.Call{Op: api.OpSnap})
		version := g.M.Peek(4).Tag
		s, _ := hand.New(g, 1, api.Call{Op: api.OpGetAt, Key: "a"})
		for i, done := 0, false; !done; i++ {
			if note := g.M.Peek(3); (note == api.Word{Id: version + 1}) != (i >= 2) || i < 2 && note != (api.Word{}) {
				t.Errorf("kind %d, before step %d: note %v", kind, i, note)
			}
			_, done = s.Step()
		}
		if g.M.Peek(3) != (api.Word{}) {
			t.Errorf("kind %d: the note %v remains", kind, g.M.Peek(3))
		}
		first, _ := hand.New(g, 0, api.Call{Op: api.OpFree})
		second, _ := hand.New(g, 1, api.Call{Op: api.OpFree})
		first.Step()
		second.Step()
		a, x := first.Step()
		b, y := second.Step()
		if a != (api.Answer{}) || b != (api.Answer{Code: api.ErrHandle}) || !x || !y || g.M.Peek(4) != (api.Word{Tag: -1}) {
			t.Errorf("kind %d, two OpFrees: %v, %v, the handle %v", kind, a, b, g.M.Peek(4))
		}
	}
}

// Promise 37.2: two OpSnaps that want the same handle, and one whose root changes.
func TestSnapRaces(t *testing.T) {
	for _, kind := range []int{api.Hamt, api.Ctrie} {
		g := lay(t, config(kind, 20, 2, 2, 4))
		first, _ := hand.New(g, 0, api.Call{Op: api.OpSnap})
		second, _ := hand.New(g, 1, api.Call{Op: api.OpSnap})
		for range 4 {
			first.Step()
			second.Step()
		}
		for i, s := range []*hand.Hand{first, second} {
			a, done := s.Step()
			for !done {
				a, done = s.Step()
			}
			if a != (api.Answer{N: i}) {
				t.Errorf("kind %d: OpSnap %d returns %v", kind, i, a)
			}
		}
	}
	g := lay(t, config(api.Ctrie, 20, 2, 2, 4))
	s, _ := hand.New(g, 1, api.Call{Op: api.OpSnap})
	for range 7 {
		s.Step()
	}
	run(t, g, api.Call{Op: api.OpPut, Key: "a", Val: "1"})
	used := g.M.Used()
	s.Step()
	if s.Step(); g.M.Used() != used-1 || g.M.Peek(0).Tag != 0 {
		t.Errorf("after a Turn that fails: %d of %d used, generation %d", g.M.Used(), used, g.M.Peek(0).Tag)
	}
	a, done := s.Step()
	for !done {
		a, done = s.Step()
	}
	if l, ok := g.Binds(g.M.Peek(4).Ref); a != (api.Answer{}) || !ok || len(l) != 1 || g.M.Peek(0).Tag != 1 {
		t.Errorf("then: %v, the snapshot contains %v", a, l)
	}
}

// Promise 37.1: errors.
func TestErrors(t *testing.T) {
	g := lay(t, config(api.Hamt, 9, 1, 2, 4))
	none := lay(t, config(api.Hamt, 9, 1, 0, 4))
	long := strings.Repeat("k", 17)
	for i, c := range []struct {
		g    *ground.Ground
		t    int
		x    api.Call
		want api.Errno
	}{
		{nil, 9, api.Call{}, api.ErrForm}, {&ground.Ground{}, 0, api.Call{Op: api.OpSnap}, api.ErrForm},
		{g, 1, api.Call{}, api.ErrArg}, {g, -1, api.Call{Op: api.OpSnap}, api.ErrArg}, {g, math.MaxInt, api.Call{Op: api.OpSnap}, api.ErrArg},
		{g, 0, api.Call{Op: api.OpPut}, api.ErrKind}, {g, 0, api.Call{Op: api.OpSweep}, api.ErrKind}, {g, 0, api.Call{}, api.ErrKind}, {g, 0, api.Call{Op: 14}, api.ErrKind}, {g, 0, api.Call{Op: api.OpFloor}, api.ErrKind},
		{g, 0, api.Call{Op: api.OpGetAt, Key: long, H: -1}, api.ErrLong}, {g, 0, api.Call{Op: api.OpFree, H: -1}, api.ErrHandle}, {none, 0, api.Call{Op: api.OpFree}, api.ErrHandle}, {none, 0, api.Call{Op: api.OpNextAt, H: 3}, api.ErrHandle},
	} {
		h, e := hand.New(c.g, c.t, c.x)
		a, steps, code := hand.Run(c.g, c.t, c.x)
		if h != nil || e != c.want || a != (api.Answer{}) || steps != 0 || code != c.want || g.Steps()+none.Steps() != 0 {
			t.Errorf("case %d: New %v, Run %v, %d, %v", i, e, a, steps, code)
		}
	}
	if a, steps, e := hand.Run(g, 0, api.Call{Op: api.OpFree, H: 77, Key: long}); a != (api.Answer{Code: api.ErrHandle}) || steps != 1 || e != api.OK {
		t.Errorf("OpFree of a number that is not held: %v, %d, %v", a, steps, e)
	}
	h, e := hand.New(g, 0, api.Call{Op: api.OpFree, H: 1})
	if h.Step(); e != api.OK || g.Steps() != 2 {
		t.Errorf("%d steps", g.Steps())
	}
	if a, done := h.Step(); a != (api.Answer{}) || !done || g.Steps() != 2 {
		t.Error("after its end an operation does something")
	}
	var nothing *hand.Hand
	if a, done := nothing.Step(); a != (api.Answer{}) || !done {
		t.Error("a nil operation")
	}
}

// Promises 37.2 to 37.4: one operation after the other, against the model, with the bound on the steps of a read.
func TestAlone(t *testing.T) {
	for seed := range 120 {
		d := dice(seed)
		kind := 1 + seed%3
		c := config(kind, 1000, 1, 1+d.roll(4), []int{1, 5, 9, 64}[seed/3%4])
		g := lay(t, c)
		var s model.State
		for range 40 {
			x := api.Call{Op: 1 + d.roll(12), Key: strconv.Itoa(d.roll(8)), Val: strconv.Itoa(d.roll(3)), Old: strconv.Itoa(d.roll(3)), H: d.roll(6)}
			if x.Op == api.OpFloor && kind != api.Treap {
				continue
			}
			below := 0
			if x.Op > api.OpFree {
				place := x.H % c.Handles
				if w := g.M.Peek(call.Handle(c, place)); w.Tag >= 0 && w.Id == x.H {
					below = reach(g, w.Ref)
				}
			}
			a, steps := run(t, g, x)
			if x.Op > api.OpFree && steps > below+4 {
				t.Errorf("%v took %d steps for %d nodes", x, steps, below)
			}
			next, ok := model.Step(c, s, x, a)
			full := x.Op == api.OpSnap && len(s.H) == c.Handles
			if l, _ := g.Binds(g.M.Peek(0).Ref); !ok || (a.Code == api.ErrFull) != full || !slices.Equal(l, next.L) {
				t.Fatalf("seed %d, %v in %v: %v; bindings %v", seed, x, s, a, l)
			}
			s = next
			for _, held := range s.H {
				if l, ok := g.Binds(g.M.Peek(call.Handle(c, held.Id%c.Handles)).Ref); !ok || !slices.Equal(l, held.L) {
					t.Fatalf("seed %d: snapshot %d contains %v, want %v", seed, held.Id, l, held.L)
				}
			}
			checkRetired(t, g)
		}
	}
}

// reach returns the number of nodes below r.
func reach(g *ground.Ground, r api.Ref) int {
	seen := map[api.Ref]bool{}
	var visit func(r api.Ref)
	visit = func(r api.Ref) {
		if n, ok := g.M.Look(r); ok && !seen[r] {
			seen[r] = true
			for _, k := range append(n.Kids, n.Main) {
				visit(k)
			}
		}
	}
	visit(r)
	return len(seen)
}

// Promises 37.3 and 37.4: any interleaving.
func TestInterleaved(t *testing.T) {
	for seed := range 500 {
		d := dice(seed)
		kind := 1 + seed%3
		c := config(kind, 30+d.roll(300), 3, 2, []int{1, 4, 64}[seed/3%3])
		g := lay(t, c)
		var h []api.Event
		active := map[int]operation{}
		given := []int{}
		begun := 0
		for begun < 16 || len(active) > 0 {
			i := d.roll(3)
			s, is := active[i]
			if !is {
				x := call.Plain(api.Call{Op: 1 + d.roll(12), Key: strconv.Itoa(d.roll(3)), Val: strconv.Itoa(d.roll(3)), Old: strconv.Itoa(d.roll(3))})
				if d.roll(3) == 0 {
					x = api.Call{Op: api.OpSnap}
				}
				if call.Held(x.Op) && len(given) > 0 {
					x.H = given[d.roll(len(given))]
				}
				if op, e := begin(g, i, x); begun < 16 && e == api.OK && (!call.Held(x.Op) || len(given) > 0) {
					active[i] = op
					h, _ = hist.Add(h, i, x)
					begun++
				}
				continue
			}
			before := g.Steps()
			a, done := s.Step()
			if g.Steps() != before+1 {
				t.Fatalf("a step took %d accesses", g.Steps()-before)
			}
			if done {
				delete(active, i)
				h, _ = hist.End(h, i, a)
				if h[len(h)-1].C.Op == api.OpSnap && a.Code == api.OK {
					given = append(given, a.N)
				}
			}
		}
		if _, ok, e := lin.Check(c, h); !ok || e != api.OK {
			t.Fatalf("seed %d: not linearizable: %v, %v", seed, h, e)
		}
		checkRetired(t, g)
	}
}
