package world_test

import (
	"boscage/api"
	"boscage/code"
	"boscage/hist"
	"boscage/lin"
	"boscage/trie"
	"boscage/world"
	"math"
	"slices"
	"strconv"
	"testing"
)

func config(kind, slots, threads, handles, bits int) api.Config {
	return api.Config{Kind: kind, Slots: slots, Threads: threads, Handles: handles, Bits: bits}
}

func begin(t *testing.T, c api.Config) *world.World {
	t.Helper()
	w, e := world.New(c)
	if e != api.OK {
		t.Fatal(e)
	}
	return w
}

// run begins an operation and executes it to its end; it returns its answer and its steps.
func run(t *testing.T, w *world.World, thread int, x api.Call) (api.Answer, int) {
	t.Helper()
	e := api.Entry{T: thread, C: x}
	if got := w.Do(e); got != world.Begun {
		t.Fatalf("%v: %d", x, got)
	}
	for steps := 1; ; steps++ {
		switch w.Do(e) {
		case world.Ended:
			h := w.History()
			return h[len(h)-1].A, steps
		case world.Gone:
		default:
			t.Fatalf("%v stopped", x)
		}
	}
}

func put(key, val string) api.Call { return api.Call{Op: api.OpPut, Key: key, Val: val} }
func get(key string) api.Call      { return api.Call{Op: api.OpGet, Key: key} }
func yes(val string) api.Answer    { return api.Answer{Has: true, Val: val} }

// dice is a generator of numbers that are the same in each run.
type dice uint64

func (d *dice) roll(n int) int {
	*d = *d*6364136223846793005 + 1442695040888963407
	return int(uint64(*d)>>33) % n
}

// Promise 39.1: the chapter's examples.
func TestExamples(t *testing.T) {
	for c, want := range map[api.Config]api.Errno{{}: api.ErrKind, {Kind: api.Hamt}: api.ErrArg} {
		if w, e := world.New(c); w != nil || e != want {
			t.Errorf("New(%v) = %v, %v", c, w, e)
		}
	}
	w := begin(t, config(api.Hamt, 9, 2, 1, 4))
	snap := api.Call{Op: api.OpSnap}
	if w.Most() != 0 || len(w.History())+len(w.Given())+len(w.Pending()) != 0 || w.Ground().C.Slots != 9 {
		t.Error("a new world has something")
	}
	for _, e := range []api.Entry{{T: 2, C: snap}, {T: -1, C: snap}, {T: math.MaxInt, C: snap}, {T: 0, C: api.Call{Op: api.OpFree}}, {T: 0, C: api.Call{Op: api.OpFloor}}, {T: 0, C: api.Call{}}, {T: 0, C: api.Call{Op: 14}}, {T: 0, C: api.Call{Op: api.OpGet, Key: "a key of 17 bytes"}}} {
		if got := w.Do(e); got != world.Nothing || len(w.History()) != 0 {
			t.Errorf("%v: %d", e, got)
		}
	}
	if got := w.Do(api.Entry{T: 1, C: snap}); got != world.Begun || w.Ground().Steps() != 0 || !slices.Equal(w.Pending(), []int{1}) || !slices.Equal(w.History(), []api.Event{{T: 1, C: snap}}) {
		t.Errorf("OpSnap: %d, pending %v, history %v", got, w.Pending(), w.History())
	}
	if got := w.Do(api.Entry{T: 1, C: get("ignored")}); got != world.Gone || w.Ground().Steps() != 1 {
		t.Errorf("the next entry: %d", got)
	}
	want := []int{world.Gone, world.Gone, world.Gone, world.Gone, world.Ended, world.Nothing, world.Begun, world.Gone, world.Ended}
	free := api.Entry{T: 1, C: api.Call{Op: api.OpFree, H: 0}}
	if got := w.Play([]api.Entry{{T: 1}, {T: 1}, {T: 1}, {T: 1}, {T: 1}, {T: 1}, free, free, free}); !slices.Equal(got, want) {
		t.Errorf("Play: %v", got)
	}
	last := w.History()
	if !slices.Equal(w.Given(), []int{0}) || len(w.Pending()) != 0 || w.Most() != 1 || len(last) != 4 || last[1] != (api.Event{Res: true, T: 1, C: snap}) || last[3] != (api.Event{Res: true, T: 1, C: free.C}) {
		t.Errorf("given %v, pending %v, most %d, history %v", w.Given(), w.Pending(), w.Most(), last)
	}
	if world.Nothing != 0 || world.Begun != 1 || world.Gone != 2 || world.Ended != 3 {
		t.Error("the results have other numbers")
	}
}

// Promise 39.1: what is returned is memory of its own, and a world that New did not make.
func TestCopies(t *testing.T) {
	w := begin(t, config(api.Treap, 9, 1, 1, 4))
	run(t, w, 0, api.Call{Op: api.OpSnap})
	w.History()[0].T, w.Given()[0] = 7, 7
	if w.History()[0].T != 0 || w.Given()[0] != 0 {
		t.Error("a world shares memory with what it returned")
	}
	for _, w := range []*world.World{nil, {}} {
		if w.Do(api.Entry{C: api.Call{Op: api.OpSnap}}) != world.Nothing || w.Ground() != nil || w.Most() != 0 || len(w.Play(make([]api.Entry, 3)))+len(w.History())+len(w.Pending())+len(w.Given()) != 0 {
			t.Error("no world does something")
		}
	}
}

// The document's ten examples of the whole, as far as worlds show them.
func TestWhole(t *testing.T) {
	hamt := begin(t, config(api.Hamt, 20, 1, 0, 64))
	if a, steps := run(t, hamt, 0, put("a", "1")); a != (api.Answer{}) || steps != 8 {
		t.Errorf("1: %v, %d steps", a, steps)
	}
	race := begin(t, config(api.Treap, 20, 2, 0, 64))
	race.Play([]api.Entry{{T: 0, C: put("a", "1")}, {T: 1, C: put("a", "2")}, {T: 0}, {T: 1}, {T: 0}, {T: 1}, {T: 0}, {T: 1}})
	for _, thread := range []int{0, 1} {
		for race.Do(api.Entry{T: thread}) == world.Gone {
		}
	}
	if h := race.History(); len(h) != 4 || h[2].A != (api.Answer{}) || h[3].A != yes("1") {
		t.Errorf("2: %v", h)
	}
	for kind := api.Hamt; kind <= api.Ctrie; kind++ {
		w := begin(t, config(kind, 50, 2, 1, 64))
		run(t, w, 0, put("a", "1"))
		run(t, w, 0, api.Call{Op: api.OpSnap})
		run(t, w, 0, put("a", "2"))
		now, _ := run(t, w, 0, get("a"))
		then, _ := run(t, w, 1, api.Call{Op: api.OpGetAt, Key: "a"})
		if now != yes("2") || then != yes("1") {
			t.Errorf("3: %v, %v", now, then)
		}
		for stop, want := range []api.Answer{{Code: api.ErrHandle}, {Code: api.ErrHandle}, {Code: api.ErrHandle}, yes("1"), yes("1")} {
			w := begin(t, config(kind, 50, 2, 1, 64))
			run(t, w, 0, put("a", "1"))
			run(t, w, 0, api.Call{Op: api.OpSnap})
			for range stop + 1 {
				w.Do(api.Entry{T: 1, C: api.Call{Op: api.OpGetAt, Key: "a"}})
			}
			run(t, w, 0, api.Call{Op: api.OpFree})
			run(t, w, 0, put("a", "2"))
			run(t, w, 0, api.Call{Op: api.OpSweep})
			for w.Do(api.Entry{T: 1}) == world.Gone {
			}
			if h := w.History(); h[len(h)-1].A != want || w.Ground().M.Faults() != 0 {
				t.Errorf("4: kind %d, an OpGetAt that began %d steps before: %v", kind, stop, h[len(h)-1].A)
			}
		}
	}
	small := begin(t, config(api.Ctrie, 3, 1, 0, 64))
	if a, _ := run(t, small, 0, put("a", "1")); a != (api.Answer{Code: api.ErrFull}) || small.Ground().M.Used() != 2 {
		t.Errorf("7: %v", a)
	}
	floats := begin(t, config(api.Treap, 50, 1, 1, 64))
	values := []float64{math.Inf(-1), math.Copysign(0, -1), 0, 1, math.NaN()}
	for _, i := range []int{3, 1, 4, 2, 0} {
		key, _ := code.Make(code.Value{Kind: code.Float, F: math.Float64bits(values[i])})
		run(t, floats, 0, put(key, strconv.Itoa(i)))
	}
	run(t, floats, 0, api.Call{Op: api.OpSnap})
	a, _ := run(t, floats, 0, api.Call{Op: api.OpFirstAt})
	for i := range values {
		if a.Val != strconv.Itoa(i) {
			t.Errorf("8: at %d comes %v", i, a)
		}
		a, _ = run(t, floats, 0, api.Call{Op: api.OpNextAt, Key: a.Key})
	}
	if a.Has {
		t.Errorf("8: after the last comes %v", a)
	}
}

// random returns an entry; n is the number of keys.
func random(d *dice, w *world.World, n int) api.Entry {
	x := api.Call{Op: 1 + d.roll(13), Key: strconv.Itoa(d.roll(n)), Val: strconv.Itoa(d.roll(3)), Old: strconv.Itoa(d.roll(3))}
	if l := w.Given(); len(l) > 0 {
		x.H = l[d.roll(len(l))]
	}
	return api.Entry{T: d.roll(w.Ground().C.Threads), C: x}
}

// check checks what holds at any time.
func check(t *testing.T, w *world.World) {
	t.Helper()
	g := w.Ground()
	if l, e := hist.Pending(w.History()); e != api.OK || !slices.Equal(l, w.Pending()) {
		t.Fatalf("pending %v, in the history %v", w.Pending(), l)
	}
	if _, stale := g.Reach(); w.Most() > 1 || g.M.Faults() != 0 || stale != 0 {
		t.Fatalf("most %d, %d faults, %d stale", w.Most(), g.M.Faults(), stale)
	}
}

// finish lets all active operations end.
func finish(w *world.World) {
	for len(w.Pending()) > 0 {
		w.Do(api.Entry{T: w.Pending()[0]})
	}
}

// Promises 39.2 and 39.3: any entries.
func TestAny(t *testing.T) {
	for seed := range 600 {
		d := dice(seed)
		kind := 1 + seed%3
		slots := 2 + d.roll(40)
		if seed%2 == 0 {
			slots = 1000
		}
		w := begin(t, config(kind, slots, 1+d.roll(5), d.roll(4), []int{1, 2, 6, 64}[seed/3%4]))
		for len(w.History()) < 50 {
			w.Do(random(&d, w, 3))
			check(t, w)
		}
		if _, ok, e := lin.Check(w.Ground().C, w.History()); !ok || e != api.OK || hist.May(w.History()) != api.OK {
			t.Fatalf("seed %d: %v, %v: %v", seed, ok, e, w.History())
		}
		finish(w)
		if _, ok, e := lin.Check(w.Ground().C, w.History()); !ok || e != api.OK {
			t.Fatalf("seed %d, at the end: %v, %v: %v", seed, ok, e, w.History())
		}
		run(t, w, 0, api.Call{Op: api.OpSweep})
		reach, _ := w.Ground().Reach()
		live := w.Ground().M.All()
		slices.Sort(live)
		if !slices.Equal(live, reach) {
			t.Errorf("seed %d: live %v, reachable %v", seed, live, reach)
		}
		for _, event := range w.History() {
			if slots == 1000 && event.A.Code == api.ErrFull && event.C.Op != api.OpSnap {
				t.Errorf("seed %d: %v with %d slots", seed, event, slots)
			}
		}
	}
}

// Promise 39.2: two operations, each cut at any of its steps.
func TestCuts(t *testing.T) {
	pairs := [][]api.Call{
		{put("a", "1"), put("a", "2")}, {put("a", "1"), {Op: api.OpDrop, Key: "b"}}, {{Op: api.OpDrop, Key: "b"}, {Op: api.OpDrop, Key: "c"}},
		{{Op: api.OpDrop, Key: "b"}, get("c")}, {{Op: api.OpSnap}, put("b", "9")}, {{Op: api.OpSnap}, {Op: api.OpDrop, Key: "c"}}, {{Op: api.OpSweep}, put("b", "9")}, {{Op: api.OpSweep}, {Op: api.OpSweep}}, {{Op: api.OpSnap}, {Op: api.OpSnap}},
	}
	for kind := api.Hamt; kind <= api.Ctrie; kind++ {
		for _, calls := range pairs {
			for first := range 30 {
				for second := range 30 {
					w := begin(t, config(kind, 100, 2, 2, 1))
					run(t, w, 0, put("b", "1"))
					run(t, w, 0, put("c", "1"))
					run(t, w, 0, put("c", "2"))
					play := func(thread, steps int) {
						for range steps {
							if slices.Contains(w.Pending(), thread) {
								w.Do(api.Entry{T: thread, C: calls[thread]})
								check(t, w)
							}
						}
					}
					w.Do(api.Entry{T: 0, C: calls[0]})
					w.Do(api.Entry{T: 1, C: calls[1]})
					play(0, first)
					play(1, second)
					finish(w)
					run(t, w, 0, api.Call{Op: api.OpSweep})
					for _, key := range []string{"a", "b", "c"} {
						run(t, w, 0, get(key))
					}
					for _, id := range w.Given() {
						run(t, w, 0, api.Call{Op: api.OpFirstAt, H: id})
						run(t, w, 0, api.Call{Op: api.OpNextAt, H: id, Key: "b"})
						run(t, w, 0, api.Call{Op: api.OpNextAt, H: id, Key: "c"})
						run(t, w, 0, api.Call{Op: api.OpSizeAt, H: id})
					}
					check(t, w)
					if _, ok, _ := lin.Check(w.Ground().C, w.History()); !ok {
						t.Fatalf("kind %d, %d and %d steps: %v", kind, first, second, w.History())
					}
				}
			}
		}
	}
}

// The document's T1: with enough slots the three kinds of maps return the same answers.
func TestSameAnswers(t *testing.T) {
	for seed := range 40 {
		var answers [3][]api.Answer
		for kind := api.Hamt; kind <= api.Ctrie; kind++ {
			w := begin(t, config(kind, 1000, 1, 2, 6))
			d := dice(seed)
			for range 60 {
				e := random(&d, w, 8)
				ordered := e.C.Op == api.OpFloor || e.C.Op == api.OpFirstAt || e.C.Op == api.OpNextAt || e.C.Op == api.OpSweep
				if !ordered && (e.C.Op < api.OpFree || len(w.Given()) > 0) {
					a, _ := run(t, w, 0, e.C)
					answers[kind-1] = append(answers[kind-1], a)
				}
			}
		}
		if !slices.Equal(answers[0], answers[1]) || !slices.Equal(answers[0], answers[2]) {
			t.Errorf("seed %d: %v", seed, answers)
		}
	}
}

// The document's T4: without snapshots a sweep leaves as many nodes as the bindings require.
func TestNoLeak(t *testing.T) {
	for seed := range 60 {
		d := dice(seed)
		w := begin(t, config(1+seed%2, 1000, 3, 2, 6))
		for range 400 {
			w.Do(random(&d, w, 6))
		}
		finish(w)
		for _, id := range w.Given() {
			run(t, w, 0, api.Call{Op: api.OpFree, H: id})
		}
		run(t, w, 0, api.Call{Op: api.OpSweep})
		g := w.Ground()
		l, _ := g.Binds(g.M.Peek(0).Ref)
		want := len(l)
		if g.C.Kind == api.Hamt {
			want = trie.Count(6, l...)
		}
		if g.M.Used() != want {
			t.Errorf("seed %d: %d used for %d bindings", seed, g.M.Used(), len(l))
		}
	}
}
