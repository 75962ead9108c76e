package sweep_test

import (
	"boscage/api"
	"boscage/call"
	"boscage/climb"
	"boscage/ground"
	"boscage/hand"
	"boscage/hist"
	"boscage/lin"
	"boscage/sweep"
	"boscage/swing"
	"boscage/trie"
	"math"
	"slices"
	"strconv"
	"testing"
)

func config(kind, slots, threads, handles, bits int) api.Config {
	return api.Config{Kind: kind, Slots: slots, Threads: threads, Handles: handles, Bits: bits}
}

func lay(t *testing.T, c api.Config) *ground.Ground {
	t.Helper()
	g, e := ground.New(c)
	if e != api.OK {
		t.Fatal(e)
	}
	return g
}

// operation is what the packages of operations have in common.
type operation interface {
	Step() (api.Answer, bool)
}

// begin makes an operation of any kind.
func begin(g *ground.Ground, t int, x api.Call) (operation, api.Errno) {
	switch {
	case x.Op == api.OpSweep:
		return sweep.New(g, t, x)
	case x.Op >= api.OpSnap:
		return hand.New(g, t, x)
	case g.C.Kind == api.Ctrie:
		return climb.New(g, t, x)
	}
	return swing.New(g, t, x)
}

// run executes an operation of thread 0.
func run(t *testing.T, g *ground.Ground, x api.Call) (api.Answer, int) {
	t.Helper()
	s, e := begin(g, 0, x)
	if e != api.OK {
		t.Fatal(x, e)
	}
	for steps := 1; ; steps++ {
		before := g.Steps()
		a, done := s.Step()
		if g.Steps() != before+1 {
			t.Fatalf("a step of %v took %d accesses", x, g.Steps()-before)
		}
		if done {
			return a, steps
		}
	}
}

func put(key string) api.Call { return api.Call{Op: api.OpPut, Key: key, Val: "v"} }

// dice is a generator of numbers that are the same in each run.
type dice uint64

func (d *dice) roll(n int) int {
	*d = *d*6364136223846793005 + 1442695040888963407
	return int(uint64(*d)>>33) % n
}

// Promise 38.2: the chapter's example.
func TestExample(t *testing.T) {
	g := lay(t, config(api.Treap, 20, 2, 1, 0))
	run(t, g, put("a"))
	run(t, g, put("a"))
	if a, steps, e := sweep.Run(g, 1, api.Call{Op: api.OpSweep}); a != (api.Answer{N: 1}) || steps != 11 || e != api.OK || g.M.Used() != 1 {
		t.Errorf("the first sweep: %v, %d steps, %v, %d used", a, steps, e, g.M.Used())
	}
	run(t, g, api.Call{Op: api.OpSnap})
	run(t, g, put("a"))
	run(t, g, put("a"))
	if a, _ := run(t, g, api.Call{Op: api.OpSweep}); a != (api.Answer{N: 1}) || g.M.Used() != 2 {
		t.Errorf("with a snapshot: %v, %d used", a, g.M.Used())
	}
	run(t, g, api.Call{Op: api.OpFree})
	if a, _ := run(t, g, api.Call{Op: api.OpSweep}); a != (api.Answer{N: 1}) || g.M.Used() != 1 {
		t.Errorf("after OpFree: %v, %d used", a, g.M.Used())
	}
	if a, steps := run(t, g, api.Call{Op: api.OpSweep}); a != (api.Answer{}) || steps != 10 || g.M.Peek(1) != (api.Word{Tag: 5}) {
		t.Errorf("with nothing to free: %v, %d steps, epoch %v", a, steps, g.M.Peek(1))
	}
}

// Promise 38.1: errors.
func TestErrors(t *testing.T) {
	g := lay(t, config(api.Ctrie, 9, 2, 0, 4))
	x := api.Call{Op: api.OpSweep}
	for i, c := range []struct {
		g    *ground.Ground
		t    int
		x    api.Call
		want api.Errno
	}{
		{nil, 9, api.Call{}, api.ErrForm}, {&ground.Ground{}, 0, x, api.ErrForm}, {g, 2, api.Call{}, api.ErrArg}, {g, -1, x, api.ErrArg}, {g, math.MaxInt, x, api.ErrArg},
		{g, 0, put("a"), api.ErrKind}, {g, 1, api.Call{}, api.ErrKind}, {g, 1, api.Call{Op: 14}, api.ErrKind},
	} {
		s, e := sweep.New(c.g, c.t, c.x)
		a, steps, code := sweep.Run(c.g, c.t, c.x)
		if s != nil || e != c.want || a != (api.Answer{}) || steps != 0 || code != c.want || g.Steps() != 0 {
			t.Errorf("case %d: New %v, Run %v, %d, %v", i, e, a, steps, code)
		}
	}
	s, e := sweep.New(g, 1, api.Call{Op: api.OpSweep, Key: "ignored", H: -1})
	if e != api.OK || g.Steps() != 0 {
		t.Errorf("New: %v, %d steps", e, g.Steps())
	}
	for i := range 9 {
		if a, done := s.Step(); a != (api.Answer{}) || done != (i == 8) {
			t.Errorf("step %d: %v, %v", i, a, done)
		}
	}
	if a, done := s.Step(); a != (api.Answer{}) || !done || g.Steps() != 9 {
		t.Error("after its end a sweep does something")
	}
	for _, none := range []*sweep.Sweep{nil, {}} {
		if a, done := none.Step(); a != (api.Answer{}) || !done {
			t.Error("no sweep does something")
		}
	}
}

// Promises 38.2 and 38.4: sweeps without others.
func TestAlone(t *testing.T) {
	for seed := range 90 {
		d := dice(seed)
		kind := 1 + seed%3
		c := config(kind, 1000, 1+d.roll(3), d.roll(4), []int{1, 5, 64}[seed/3%3])
		g := lay(t, c)
		for range 60 {
			x := api.Call{Op: api.OpPut + d.roll(12), Key: strconv.Itoa(d.roll(8)), Val: strconv.Itoa(d.roll(2)), Old: "0", H: d.roll(6)}
			if s, e := begin(g, 0, x); e == api.OK && x.Op != api.OpSweep {
				for done := false; !done; {
					_, done = s.Step()
				}
				continue
			}
			checkSweep(t, g)
		}
		for id := range 100 {
			if c.Handles > 0 {
				run(t, g, api.Call{Op: api.OpFree, H: id})
			}
		}
		checkSweep(t, g)
		if a, _ := run(t, g, api.Call{Op: api.OpSweep}); a != (api.Answer{}) {
			t.Errorf("seed %d: a second sweep frees %d nodes", seed, a.N)
		}
		l, _ := g.Binds(g.M.Peek(0).Ref)
		switch used := g.M.Used(); {
		case kind == api.Treap && used != len(l), kind == api.Hamt && used != trie.Count(c.Bits, l...):
			t.Errorf("seed %d: %d slots used for %d bindings", seed, used, len(l))
		}
	}
}

// checkSweep executes a sweep and checks what it leaves.
func checkSweep(t *testing.T, g *ground.Ground) {
	t.Helper()
	root, used := g.M.Peek(0), g.M.Used()
	reach, _ := g.Reach()
	a, steps := run(t, g, api.Call{Op: api.OpSweep})
	live := g.M.All()
	slices.Sort(live)
	after, stale := g.Reach()
	if a != (api.Answer{N: used - len(reach)}) || steps != 3*g.C.Threads+g.C.Handles+a.N+3 || !slices.Equal(live, reach) || !slices.Equal(after, reach) || stale != 0 || g.M.Peek(0) != root || g.M.Faults() != 0 {
		t.Fatalf("a sweep of %d nodes, %d reachable: %v, %d steps, %d live", used, len(reach), a, steps, len(live))
	}
	var kept, needed []api.Ref
	for _, group := range g.X.All() {
		for _, x := range group.L {
			kept = append(kept, x.Ref)
		}
	}
	var below []api.Ref
	visit(g, root.Ref, &below)
	for _, r := range reach {
		if !slices.Contains(below, r) {
			needed = append(needed, r)
		}
	}
	slices.Sort(kept)
	if !slices.Equal(kept, needed) {
		t.Fatalf("the lists keep %v, the snapshots need %v", kept, needed)
	}
}

// visit collects the references below r.
func visit(g *ground.Ground, r api.Ref, l *[]api.Ref) {
	n, ok := g.M.Look(r)
	if !ok || slices.Contains(*l, r) {
		return
	}
	*l = append(*l, r)
	for _, k := range append(n.Kids, n.Main) {
		visit(g, k, l)
	}
}

// Promise 38.3: what an operation may still read is not freed.
func TestNotes(t *testing.T) {
	for _, kind := range []int{api.Hamt, api.Treap} {
		for stop := 1; stop < 5; stop++ {
			g := lay(t, config(kind, 9, 3, 1, 0))
			run(t, g, put("a"))
			s, _ := begin(g, 1, api.Call{Op: api.OpGet, Key: "a"})
			for range stop {
				s.Step()
			}
			run(t, g, put("a"))
			a, _ := run(t, g, api.Call{Op: api.OpSweep})
			// With its note stored the reader holds off the sweep.
			if want := 1 - min(stop/2, 1); a.N != want {
				t.Errorf("kind %d, a reader after %d steps: %d freed", kind, stop, a.N)
			}
			var answer api.Answer
			for done := false; !done; {
				answer, done = s.Step()
			}
			if answer != (api.Answer{Has: true, Val: "v"}) || g.M.Faults() != 0 {
				t.Errorf("kind %d, a reader after %d steps: %v, %d faults", kind, stop, answer, g.M.Faults())
			}
			if a, _ := run(t, g, api.Call{Op: api.OpSweep}); a.N != min(stop/2, 1) || g.M.Used() != 1 {
				t.Errorf("kind %d, the last sweep frees %d", kind, a.N)
			}
		}
	}
}

// Promise 38.3: a snapshot that is released while a sweep runs, but is still read.
func TestReleased(t *testing.T) {
	for _, kind := range []int{api.Hamt, api.Treap, api.Ctrie} {
		for cut := range 13 {
			g := lay(t, config(kind, 30, 3, 1, 4))
			run(t, g, put("a"))
			run(t, g, api.Call{Op: api.OpSnap})
			run(t, g, put("a"))
			s, _ := begin(g, 0, api.Call{Op: api.OpSweep})
			for range cut {
				s.Step()
			}
			reader, _ := begin(g, 2, api.Call{Op: api.OpGetAt, Key: "a"})
			for range 3 {
				reader.Step()
			}
			free, _ := begin(g, 1, api.Call{Op: api.OpFree})
			for done := false; !done; {
				_, done = free.Step()
			}
			for done := false; !done; {
				_, done = s.Step()
			}
			var a api.Answer
			for done := false; !done; {
				a, done = reader.Step()
			}
			if a != (api.Answer{Has: true, Val: "v"}) || g.M.Faults() != 0 {
				t.Errorf("kind %d, a sweep cut at %d: %v, %d faults", kind, cut, a, g.M.Faults())
			}
			checkSweep(t, g)
		}
	}
}

// Promise 38.3: any interleaving.
func TestInterleaved(t *testing.T) {
	for seed := range 900 {
		d := dice(seed)
		kind := 1 + seed%3
		c := config(kind, 12+d.roll(100), 4, 2, []int{1, 4, 64}[seed/3%3])
		g := lay(t, c)
		var h []api.Event
		active := map[int]operation{}
		given := []int{}
		begun := 0
		for begun < 18 || len(active) > 0 {
			i := d.roll(4)
			s, is := active[i]
			if !is {
				x := call.Plain(api.Call{Op: 1 + d.roll(13), Key: strconv.Itoa(d.roll(2)), Val: strconv.Itoa(d.roll(3)), Old: strconv.Itoa(d.roll(3))})
				if d.roll(3) == 0 {
					x = api.Call{Op: api.OpSweep - 6*d.roll(2)}
				}
				if call.Held(x.Op) && len(given) > 0 {
					x.H = given[d.roll(len(given))]
				}
				if op, e := begin(g, i, x); begun < 18 && e == api.OK && (!call.Held(x.Op) || len(given) > 0) {
					active[i] = op
					h, _ = hist.Add(h, i, x)
					begun++
				}
				continue
			}
			a, done := s.Step()
			if _, stale := g.Reach(); stale != 0 || g.M.Faults() != 0 {
				t.Fatalf("seed %d: %d stale references, %d faults", seed, stale, g.M.Faults())
			}
			if done {
				delete(active, i)
				h, _ = hist.End(h, i, a)
				if h[len(h)-1].C.Op == api.OpSnap && a.Code == api.OK {
					given = append(given, a.N)
				}
			}
		}
		if _, ok, e := lin.Check(c, h); !ok || e != api.OK {
			t.Fatalf("seed %d: not linearizable: %v, %v", seed, h, e)
		}
		checkSweep(t, g)
	}
}
