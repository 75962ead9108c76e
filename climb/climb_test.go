package climb_test

import (
	"boscage/api"
	"boscage/call"
	"boscage/climb"
	"boscage/ground"
	"boscage/hash"
	"boscage/hist"
	"boscage/lin"
	"boscage/model"
	"boscage/node"
	"boscage/seek"
	"boscage/word"
	"math"
	"slices"
	"strconv"
	"strings"
	"testing"
)

func config(slots, threads, bits int) api.Config {
	return api.Config{Kind: api.Ctrie, Slots: slots, Threads: threads, Handles: 2, Bits: bits}
}

func lay(t *testing.T, c api.Config) *ground.Ground {
	t.Helper()
	g, e := ground.New(c)
	if e != api.OK {
		t.Fatal(e)
	}
	return g
}

func yes(val string) api.Answer { return api.Answer{Has: true, Val: val} }

// bound returns the bindings of the map.
func bound(t *testing.T, g *ground.Ground) []api.Pair {
	t.Helper()
	l, ok := g.Binds(g.M.Peek(0).Ref)
	if !ok {
		t.Fatal("a node of the map is not live")
	}
	return l
}

// dice is a generator of numbers that are the same in each run.
type dice uint64

func (d *dice) roll(n int) int {
	*d = *d*6364136223846793005 + 1442695040888963407
	return int(uint64(*d)>>33) % n
}

// snapshot raises the generation as an OpSnap does, and holds the previous root in handle i.
func snapshot(g *ground.Ground, i int) {
	w := g.M.Peek(0)
	old, _ := g.M.Look(w.Ref)
	fresh := node.Inner(old.Main)
	fresh.Birth = w.Tag + 1
	r, _ := g.M.Take(fresh)
	g.M.Turn(0, w, api.Word{Ref: r, Tag: w.Tag + 1}, w.Ref, old.Main)
	held, _ := word.Handle(word.Held, i, w.Ref, w.Tag)
	g.M.Store(call.Handle(g.C, i), held)
}

// wellFormed copies the nodes below r to a heap and checks them there.
func wellFormed(g *ground.Ground, r api.Ref) bool {
	var h []api.Node
	to := map[api.Ref]api.Ref{0: 0}
	var visit func(r api.Ref)
	visit = func(r api.Ref) {
		n, _ := g.M.Look(r)
		for i, k := range n.Kids {
			visit(k)
			n.Kids[i] = to[k]
		}
		if n.Main != 0 {
			visit(n.Main)
			n.Main = to[n.Main]
		}
		h = append(h, n)
		to[r] = api.Ref(len(h))
	}
	visit(r)
	return seek.Lies(h, to[r], g.C.Bits)
}

// checkRetired checks that what is live and not reachable is in the lists, once; kept may be in the lists and reachable.
func checkRetired(t *testing.T, g *ground.Ground, kept bool) {
	t.Helper()
	reach, stale := g.Reach()
	var all []api.Ref
	for _, group := range g.X.All() {
		for _, x := range group.L {
			if n, _ := g.M.Look(x.Ref); n.Birth != x.Birth {
				t.Errorf("%v was retired with the Birth %d", n, x.Birth)
			}
			if !kept || !slices.Contains(reach, x.Ref) {
				all = append(all, x.Ref)
			}
		}
	}
	all = append(all, reach...)
	live := g.M.All()
	slices.Sort(all)
	slices.Sort(live)
	if stale != 0 || !slices.Equal(all, live) || g.M.Faults() != 0 {
		t.Fatalf("live %v, reachable and retired %v, %d stale, %d faults", live, all, stale, g.M.Faults())
	}
}

// Promise 36.1: the chapter's example.
func TestExample(t *testing.T) {
	g := lay(t, config(50, 1, 4))
	for i, c := range []struct {
		x    api.Call
		want api.Answer
	}{
		{api.Call{Op: api.OpPut, Key: "a", Val: "1"}, api.Answer{}},
		{api.Call{Op: api.OpAdd, Key: "b", Val: "2"}, api.Answer{}},
		{api.Call{Op: api.OpAdd, Key: "a", Val: "9"}, yes("1")},
		{api.Call{Op: api.OpSwap, Key: "b", Val: "3", Old: "2"}, yes("2")},
		{api.Call{Op: api.OpDrop, Key: "a"}, yes("1")},
		{api.Call{Op: api.OpGet, Key: "b"}, yes("3")},
		{api.Call{Op: api.OpGet, Key: "a"}, api.Answer{}},
	} {
		before := g.Steps()
		a, steps, e := climb.Run(g, 0, c.x)
		if a != c.want || e != api.OK || steps != g.Steps()-before || i == 0 && steps != 11 {
			t.Errorf("operation %d: %v, %d steps, %v", i, a, steps, e)
		}
	}
	if l := bound(t, g); !slices.Equal(l, []api.Pair{{Key: "b", Val: "3"}}) || g.M.Peek(0) != (api.Word{Ref: 1026}) || g.M.Peek(2) != (api.Word{}) {
		t.Errorf("%v, root %v, note %v", l, g.M.Peek(0), g.M.Peek(2))
	}
}

// Promise 36.1: errors, and an operation before its beginning and after its end.
func TestErrors(t *testing.T) {
	g := lay(t, config(9, 1, 4))
	other, _ := ground.New(api.Config{Kind: api.Hamt, Slots: 9, Threads: 1})
	long := strings.Repeat("k", 17)
	get := api.Call{Op: api.OpGet}
	for i, c := range []struct {
		g    *ground.Ground
		t    int
		x    api.Call
		want api.Errno
	}{
		{nil, 9, api.Call{}, api.ErrForm}, {&ground.Ground{}, 0, get, api.ErrForm}, {&ground.Ground{C: g.C}, 0, get, api.ErrForm},
		{other, 0, get, api.ErrArg}, {g, 1, api.Call{}, api.ErrArg}, {g, -1, get, api.ErrArg}, {g, math.MaxInt, get, api.ErrArg},
		{g, 0, api.Call{Op: api.OpFloor}, api.ErrKind}, {g, 0, api.Call{}, api.ErrKind}, {g, 0, api.Call{Op: api.OpSnap, Key: long}, api.ErrKind}, {g, 0, api.Call{Op: 14}, api.ErrKind},
		{g, 0, api.Call{Op: api.OpGet, Key: long}, api.ErrLong}, {g, 0, api.Call{Op: api.OpPut, Val: long}, api.ErrLong},
	} {
		s, e := climb.New(c.g, c.t, c.x)
		a, steps, code := climb.Run(c.g, c.t, c.x)
		if s != nil || e != c.want || a != (api.Answer{}) || steps != 0 || code != c.want || g.Steps()+other.Steps() != 0 {
			t.Errorf("case %d: New %v, Run %v, %d, %v", i, e, a, steps, code)
		}
	}
	s, e := climb.New(g, 0, get)
	if e != api.OK || g.Steps() != 0 {
		t.Error("New performs an access")
	}
	for i := range 6 {
		if a, done := s.Step(); a != (api.Answer{}) || done != (i == 5) {
			t.Errorf("step %d: %v, %v", i, a, done)
		}
	}
	if a, done := s.Step(); a != (api.Answer{}) || !done || g.Steps() != 6 {
		t.Errorf("after its end: %v, %v", a, done)
	}
	var none *climb.Climb
	if a, done := none.Step(); a != (api.Answer{}) || !done {
		t.Error("a nil operation")
	}
}

// step executes some steps of an operation.
func step(s *climb.Climb, n int) (a api.Answer, done bool) {
	for range n {
		a, done = s.Step()
	}
	return a, done
}

// Promise 36.1: what an OpPut leaves in the memory on its way, in another epoch and generation.
func TestSteps(t *testing.T) {
	g := lay(t, config(20, 2, 64))
	g.M.Store(1, api.Word{Tag: 7})
	snapshot(g, 0)
	root, begun := g.M.Peek(0), g.Steps()
	s, _ := climb.New(g, 1, api.Call{Op: api.OpPut, Key: "a", Val: "1"})
	for i := range 11 {
		note := api.Word{}
		if i >= 2 {
			note.Tag = 7
		}
		top, _ := g.M.Look(root.Ref)
		if used := 3 + min(max(i-5, 0), 2); g.M.Peek(3) != note || g.M.Used() != used || (top.Main != 1025) != (i >= 8) || g.Steps() != begun+i || (len(g.X.All()) > 0) != (i >= 10) {
			t.Errorf("before step %d: note %v, %d used, main %d, %v", i, g.M.Peek(3), g.M.Used(), top.Main, g.X.All())
		}
		if a, done := s.Step(); a != (api.Answer{}) || done != (i == 10) {
			t.Errorf("step %d: %v, %v", i, a, done)
		}
	}
	l := g.X.All()
	if len(l) != 1 || l[0].Stamp != 7 || l[0].Death != 1 || len(l[0].L) != 1 || l[0].L[0].Ref != 1025 || l[0].L[0].Birth != 0 || g.M.Peek(3) != (api.Word{}) {
		t.Errorf("the lists contain %v", l)
	}
	for _, r := range []api.Ref{1028, 1029} {
		if n, ok := g.M.Look(r); !ok || n.Birth != 1 && n.Kind == api.NLeaf {
			t.Errorf("a new node is %v", n)
		}
	}
}

// alike returns keys with the same hash of one bit, and one with the other.
func alike() (same []string, other string) {
	for i := range 40 {
		key := strconv.Itoa(i)
		if hash.Of(key, 1) == 0 {
			same = append(same, key)
		} else {
			other = key
		}
	}
	return same, other
}

// buried makes a map of one bit in which a bucket of two keys and a leaf are below the root.
func buried(t *testing.T) (g *ground.Ground, first, second, other string) {
	t.Helper()
	same, other := alike()
	g = lay(t, config(60, 2, 1))
	for _, key := range []string{same[0], same[1], other} {
		climb.Run(g, 0, api.Call{Op: api.OpPut, Key: key, Val: "v"})
	}
	return g, same[0], same[1], other
}

// tombs returns the number of reachable NTombs.
func tombs(g *ground.Ground) int {
	count := 0
	reach, _ := g.Reach()
	for _, r := range reach {
		if n, _ := g.M.Look(r); n.Kind == api.NTomb {
			count++
		}
	}
	return count
}

// Promises 36.1 and 36.2: an OpDrop that leaves one key in a bucket moves that one up.
func TestRise(t *testing.T) {
	g, first, second, other := buried(t)
	a, steps, _ := climb.Run(g, 0, api.Call{Op: api.OpDrop, Key: first})
	reach, _ := g.Reach()
	if a != yes("v") || steps != 21 || tombs(g) != 0 || len(reach) != 4 || len(bound(t, g)) != 2 {
		t.Errorf("OpDrop: %v, %d steps, %d nodes reachable", a, steps, len(reach))
	}
	checkRetired(t, g, false)
	for cut := range 22 {
		g, first, second, other = buried(t)
		s, _ := climb.New(g, 0, api.Call{Op: api.OpDrop, Key: first})
		step(s, cut)
		climb.Run(g, 1, api.Call{Op: api.OpPut, Key: other, Val: "w"})
		a, done := step(s, 1)
		for !done {
			a, done = s.Step()
		}
		want := []api.Pair{{Key: second, Val: "v"}, {Key: other, Val: "w"}}
		if other < second {
			slices.Reverse(want)
		}
		if cut < 21 && a != yes("v") || tombs(g) != 0 || !slices.Equal(bound(t, g), want) {
			t.Errorf("cut at %d: %v, %d tombs, %v", cut, a, tombs(g), bound(t, g))
		}
		checkRetired(t, g, false)
	}
}

// Promise 36.2: when the root changes, or no slot is free, moving up ends, and the answer is not affected.
func TestRiseEnds(t *testing.T) {
	for cut := 13; cut < 18; cut++ {
		g, first, second, _ := buried(t)
		s, _ := climb.New(g, 0, api.Call{Op: api.OpDrop, Key: first})
		step(s, cut)
		snapshot(g, 0)
		a, done := s.Step()
		for !done {
			a, done = s.Step()
		}
		if a != yes("v") || tombs(g) != 1 {
			t.Errorf("cut at %d by a snapshot: %v, %d tombs", cut, a, tombs(g))
		}
		if a, _, _ := climb.Run(g, 1, api.Call{Op: api.OpGet, Key: second}); a != yes("v") {
			t.Errorf("cut at %d by a snapshot: then %v", cut, a)
		}
		if a, _, _ := climb.Run(g, 1, api.Call{Op: api.OpPut, Key: second, Val: "w"}); a != yes("v") || tombs(g) != 1 {
			t.Errorf("cut at %d by a snapshot: then %v, %d tombs", cut, a, tombs(g))
		}
		checkRetired(t, g, true)
	}
	for free := range 4 {
		g, first, second, _ := buried(t)
		for g.M.Used() < 60-free {
			g.M.Take(node.Leaf("", ""))
		}
		live := g.M.Used()
		a, steps, _ := climb.Run(g, 0, api.Call{Op: api.OpDrop, Key: first})
		want, left := yes("v"), 1
		switch free {
		case 0:
			want, left = api.Answer{Code: api.ErrFull}, 0
		case 3:
			left = 0
		}
		if a != want || tombs(g) != left || g.M.Used() != live+min(free, 1)+2*max(free-2, 0) || steps != []int{11, 17, 19, 21}[free] {
			t.Errorf("%d slots free: %v, %d steps, %d tombs, %d of %d used", free, a, steps, tombs(g), g.M.Used(), live)
		}
		if a, _, _ := climb.Run(g, 0, api.Call{Op: api.OpGet, Key: second}); a != yes("v") {
			t.Errorf("%d slots free: then %v", free, a)
		}
	}
}

// Promise 36.2: ErrFull.
func TestFull(t *testing.T) {
	g := lay(t, config(3, 1, 4))
	if a, _, _ := climb.Run(g, 0, api.Call{Op: api.OpPut, Key: "a"}); a != (api.Answer{Code: api.ErrFull}) || len(bound(t, g)) != 0 || g.M.Used() != 2 {
		t.Errorf("OpPut in 3 slots: %v, %d used", a, g.M.Used())
	}
	for slots := 2; slots < 40; slots++ {
		g := lay(t, config(slots, 1, 10))
		d := dice(slots)
		for range 60 {
			x := api.Call{Op: api.OpPut + d.roll(4), Key: strconv.Itoa(d.roll(9)), Val: "v", Old: "v"}
			used, l := g.M.Used(), bound(t, g)
			a, _, _ := climb.Run(g, 0, x)
			if a.Code == api.OK {
				continue
			}
			if a != (api.Answer{Code: api.ErrFull}) || slots-used >= 6*hash.Levels(10)+8 || !slices.Equal(bound(t, g), l) || g.M.Peek(2) != (api.Word{}) {
				t.Fatalf("%d of %d slots used, %v: %v", used, slots, x, a)
			}
			checkRetired(t, g, false)
		}
	}
}

// Promises 36.2 and 36.4: one operation after the other, with snapshots between.
func TestAlone(t *testing.T) {
	for _, bits := range []int{1, 3, 6, 64} {
		for seed := range 12 {
			c := config(1000, 2, bits)
			g := lay(t, c)
			var s model.State
			var held []api.Pair
			snaps := 0
			d := dice(seed)
			for range 50 {
				if seed%2 == 1 && d.roll(8) == 0 && snaps < 2 {
					snapshot(g, snaps)
					held = s.L
					snaps++
				}
				x := api.Call{Op: 1 + d.roll(5), Key: strconv.Itoa(d.roll(12)), Val: strconv.Itoa(d.roll(3)), Old: strconv.Itoa(d.roll(3))}
				want, _ := model.Answer(c, s, x)
				a, steps, e := climb.Run(g, d.roll(2), x)
				if a.Code == api.ErrFull && g.M.Used() > 1000-6*hash.Levels(bits)-8 {
					break
				}
				most := hash.Levels(bits) + 4
				s, _ = model.Step(c, s, x, a)
				if a != want || e != api.OK || steps > 12*most*most || !slices.Equal(bound(t, g), s.L) || g.M.Peek(0).Tag != snaps || !wellFormed(g, g.M.Peek(0).Ref) {
					t.Fatalf("%d bits, %v: %v, %d steps, generation %d; want %v", bits, x, a, steps, g.M.Peek(0).Tag, want)
				}
				if snaps > 0 {
					if l, ok := g.Binds(g.M.Peek(call.Handle(c, snaps-1)).Ref); !ok || !slices.Equal(l, held) {
						t.Fatalf("%d bits: the snapshot contains %v, want %v", bits, l, held)
					}
				}
				if tombs(g) != 0 {
					t.Fatalf("%d bits: %v leaves a tomb", bits, x)
				}
				checkRetired(t, g, snaps > 0)
			}
		}
	}
}

// Promise 36.2: with enough operations that drop, nothing but the root's two nodes remains.
func TestDrops(t *testing.T) {
	for _, bits := range []int{1, 5, 9, 64} {
		g := lay(t, config(1000, 1, bits))
		for i := range 9 {
			climb.Run(g, 0, api.Call{Op: api.OpPut, Key: strconv.Itoa(i)})
		}
		for i := range 9 {
			climb.Run(g, 0, api.Call{Op: api.OpDrop, Key: strconv.Itoa(i)})
		}
		if reach, _ := g.Reach(); len(reach) != 2 || len(bound(t, g)) != 0 {
			t.Errorf("%d bits: %d nodes reachable", bits, len(reach))
		}
	}
}

// Promises 36.3 and 36.4: any interleaving, with a snapshot between.
func TestInterleaved(t *testing.T) {
	for seed := range 400 {
		d := dice(seed)
		c := config(25+d.roll(200), 3, []int{1, 4, 7, 64}[seed%4])
		g := lay(t, c)
		var h []api.Event
		active := map[int]*climb.Climb{}
		begun := 0
		for begun < 14 || len(active) > 0 {
			i := d.roll(3)
			s, is := active[i]
			if !is {
				x := api.Call{Op: 1 + d.roll(5), Key: strconv.Itoa(d.roll(3)), Val: strconv.Itoa(d.roll(3)), Old: strconv.Itoa(d.roll(3))}
				if begun < 14 {
					active[i], _ = climb.New(g, i, x)
					h, _ = hist.Add(h, i, x)
					begun++
				}
				if seed%3 == 0 && begun == 7 {
					snapshot(g, 0)
				}
				continue
			}
			before := g.Steps()
			a, done := s.Step()
			if g.Steps() != before+1 {
				t.Fatalf("a step took %d accesses", g.Steps()-before)
			}
			if done {
				delete(active, i)
				h, _ = hist.End(h, i, a)
			}
		}
		for _, p := range []string{"0", "1", "2"} {
			x := api.Call{Op: api.OpGet, Key: p}
			h, _ = hist.Add(h, 0, x)
			a, _, _ := climb.Run(g, 0, x)
			h, _ = hist.End(h, 0, a)
		}
		if _, ok, e := lin.Check(c, h); !ok || e != api.OK {
			t.Fatalf("seed %d: not linearizable: %v, %v", seed, h, e)
		}
		checkRetired(t, g, seed%3 == 0)
	}
}
