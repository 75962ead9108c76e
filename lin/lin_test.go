package lin_test

import (
	"boscage/api"
	"boscage/hist"
	"boscage/lin"
	"boscage/model"
	"math"
	"slices"
	"strconv"
	"testing"
)

func treap() api.Config {
	return api.Config{Kind: api.Treap, Slots: 9, Threads: 9, Handles: 2, Bits: 4}
}

func get() api.Call           { return api.Call{Op: api.OpGet, Key: "a"} }
func put(val string) api.Call { return api.Call{Op: api.OpPut, Key: "a", Val: val} }
func yes(val string) api.Answer {
	return api.Answer{Has: true, Val: val}
}

func begin(t int, c api.Call) api.Event { return api.Event{T: t, C: c} }
func end(t int, c api.Call, a api.Answer) api.Event {
	return api.Event{Res: true, T: t, C: c, A: a}
}

// Promise 33.1: the chapter's examples.
func TestExamples(t *testing.T) {
	none := api.Answer{}
	pending := []api.Event{begin(0, put("1")), begin(1, get()), end(1, get(), yes("1"))}
	for _, c := range []struct {
		l    []int
		want bool
	}{{[]int{0, 1}, true}, {[]int{1, 0}, false}, {[]int{1}, false}, {[]int{0}, false}, {nil, false}, {[]int{0, 1, 1}, false}, {[]int{0, 0, 1}, false}, {[]int{0, 1, 2}, false}, {[]int{-1, 0, 1}, false}, {[]int{0, math.MaxInt}, false}} {
		if got, e := lin.Is(treap(), pending, c.l); got != c.want || e != api.OK {
			t.Errorf("Is of %v = %v, %v", c.l, got, e)
		}
	}
	for i, c := range []struct {
		h    []api.Event
		want []int
		ok   bool
	}{
		{nil, nil, true},
		{pending, []int{0, 1}, true},
		{[]api.Event{begin(0, put("1")), begin(1, put("2")), end(0, put("1"), yes("2")), end(1, put("2"), none), begin(0, get()), end(0, get(), yes("1"))}, []int{1, 0, 2}, true},
		{[]api.Event{begin(0, put("1")), end(0, put("1"), none), begin(1, get()), end(1, get(), none)}, nil, false},
		{[]api.Event{begin(0, put("1")), begin(1, get()), end(1, get(), none)}, []int{1}, true},
		{[]api.Event{begin(0, put("1")), begin(1, get())}, nil, true},
		{[]api.Event{begin(0, get()), begin(1, put("1")), end(1, put("1"), none)}, []int{1}, true},
		{[]api.Event{begin(0, api.Call{Op: api.OpPut, Key: "z"}), begin(1, put("1")), end(1, put("1"), none)}, []int{0, 1}, true},
		{[]api.Event{begin(0, api.Call{Op: 99}), end(0, api.Call{Op: 99}, none)}, nil, false},
		{[]api.Event{begin(0, api.Call{Op: 99})}, nil, true},
	} {
		l, ok, e := lin.Check(treap(), c.h)
		if !slices.Equal(l, c.want) || ok != c.ok || e != api.OK {
			t.Errorf("history %d: %v, %v, %v", i, l, ok, e)
		}
	}
}

// Promise 33.1: errors.
func TestErrors(t *testing.T) {
	var long []api.Event
	for i := range 60 {
		long = append(long, begin(i, put("1")))
	}
	response := []api.Event{end(0, get(), yes("1"))}
	thread := []api.Event{begin(64, get())}
	for i, c := range []struct {
		c    api.Config
		h    []api.Event
		want api.Errno
	}{
		{api.Config{}, response, api.ErrKind}, {api.Config{Kind: api.Treap}, response, api.ErrArg}, {treap(), thread, api.ErrArg}, {treap(), response, api.ErrForm},
		{treap(), long, api.OK}, {treap(), append(slices.Clone(long), begin(60, get())), api.ErrLong}, {treap(), append(append(slices.Clone(long), begin(60, get())), response...), api.ErrForm},
	} {
		is, bad := lin.Is(c.c, c.h, nil)
		l, ok, worse := lin.Check(c.c, c.h)
		if bad != c.want || worse != c.want || is != (c.want == api.OK) || ok != (c.want == api.OK) || len(l) != 0 {
			t.Errorf("case %d: Is %v, %v; Check %v, %v, %v", i, is, bad, l, ok, worse)
		}
	}
}

// linearizes checks a list by the chapter's words.
func linearizes(c api.Config, ops []hist.Op, l []int) bool {
	for i, x := range ops {
		if x.Done && !slices.Contains(l, i) {
			return false
		}
	}
	var s model.State
	for i, x := range l {
		for _, y := range l[i+1:] {
			if x == y || hist.Ahead(ops[y], ops[x]) {
				return false
			}
		}
		var ok bool
		if ops[x].Done {
			s, ok = model.Step(c, s, ops[x].C, ops[x].A)
		} else {
			s, ok = model.After(c, s, ops[x].C)
		}
		if !ok {
			return false
		}
	}
	return true
}

// lists yields all lists of different indices in their order, till yield returns false.
func lists(n int, l []int, yield func(l []int) bool) bool {
	if !yield(l) {
		return false
	}
	for i := range n {
		if !slices.Contains(l, i) && !lists(n, append(slices.Clone(l), i), yield) {
			return false
		}
	}
	return true
}

// dice is a generator of numbers that are the same in each run.
type dice uint64

func (d *dice) roll(n int) int {
	*d = *d*6364136223846793005 + 1442695040888963407
	return int(uint64(*d)>>33) % n
}

// random makes a history of few entries, with answers that are often right.
func random(d *dice) []api.Event {
	var h []api.Event
	var s model.State
	busy := map[int]api.Call{}
	for range 4 + d.roll(6) {
		thread := d.roll(4)
		c, is := busy[thread]
		if !is {
			if len(h) > 5 && d.roll(2) == 0 {
				continue
			}
			c = api.Call{Op: 1 + d.roll(13), Key: strconv.Itoa(d.roll(2)), Val: strconv.Itoa(d.roll(2)), Old: strconv.Itoa(d.roll(2)), H: d.roll(2)}
			busy[thread] = c
			h = append(h, begin(thread, c))
			continue
		}
		delete(busy, thread)
		a, ok := model.Answer(treap(), s, c)
		switch {
		case !ok:
			a = api.Answer{N: d.roll(2)}
		case d.roll(6) == 0:
			a = api.Answer{Code: api.ErrFull}
		case d.roll(9) == 0:
			a = yes(strconv.Itoa(d.roll(2)))
		}
		s, _ = model.Step(treap(), s, c, a)
		h = append(h, end(thread, c, a))
	}
	return h
}

// Promises 33.1 and 33.2: against a search through all lists.
func TestAll(t *testing.T) {
	d := dice(7)
	good := 0
	for range 3000 {
		h := random(&d)
		ops, e := hist.Ops(h)
		if e != api.OK || len(ops) > 5 {
			continue
		}
		var want []int
		is := false
		lists(len(ops), nil, func(l []int) bool {
			holds := linearizes(treap(), ops, l)
			if got, _ := lin.Is(treap(), h, l); got != holds {
				t.Fatalf("%v: Is of %v = %v", h, l, got)
			}
			if holds {
				want, is = l, true
			}
			return !is
		})
		l, ok, e := lin.Check(treap(), h)
		if !slices.Equal(l, want) || ok != is || e != api.OK {
			t.Fatalf("%v: %v, %v, %v, want %v, %v", h, l, ok, e, want, is)
		}
		if ok {
			good++
		}
	}
	if good < 500 || good > 2900 {
		t.Errorf("%d histories were linearizable: the test is worth little", good)
	}
}

// plain finds the least linearization by trying all entries one after the other.
func plain(c api.Config, ops []hist.Op, placed map[int]bool, s model.State, l []int) ([]int, bool) {
	done := true
	for i, x := range ops {
		done = done && (placed[i] || !x.Done)
	}
	if done {
		return l, true
	}
next:
	for i, x := range ops {
		for j, y := range ops {
			if placed[i] || !placed[j] && hist.Ahead(y, x) {
				continue next
			}
		}
		state, ok := model.After(c, s, x.C)
		if x.Done {
			state, ok = model.Step(c, s, x.C, x.A)
		}
		if !ok {
			continue
		}
		placed[i] = true
		if out, is := plain(c, ops, placed, state, append(slices.Clone(l), i)); is {
			return out, true
		}
		placed[i] = false
	}
	return nil, false
}

// longer makes a history of nine entries, of which more come at once than in random.
func longer(d *dice) []api.Event {
	var h []api.Event
	var s model.State
	busy, early := map[int]api.Call{}, map[int]api.Answer{}
	answer := func(c api.Call) api.Answer {
		a, ok := model.Answer(treap(), s, c)
		if !ok {
			a = api.Answer{N: d.roll(3)}
		}
		s, _ = model.Step(treap(), s, c, a)
		return a
	}
	threads, keys := 2+d.roll(6), 1+d.roll(2)
	for begun := 0; begun < 9 || len(busy) > 2; {
		thread := d.roll(threads)
		c, is := busy[thread]
		if !is && begun < 9 {
			begun++
			c = api.Call{Op: 1 + d.roll(13), Key: strconv.Itoa(d.roll(keys)), Val: strconv.Itoa(d.roll(2)), Old: strconv.Itoa(d.roll(2)), H: d.roll(3)}
			if d.roll(2) == 0 {
				c.Op = 1 + d.roll(5)
			}
			busy[thread] = c
			h = append(h, begin(thread, c))
			if d.roll(2) == 0 {
				early[thread] = answer(c)
			}
		}
		if !is {
			continue
		}
		a, known := early[thread]
		if !known {
			a = answer(c)
		}
		if d.roll(12) == 0 {
			a = api.Answer{Has: d.roll(2) == 0, Val: strconv.Itoa(d.roll(2))}
		}
		delete(busy, thread)
		delete(early, thread)
		h = append(h, end(thread, c, a))
	}
	return h
}

// Promises 33.1 and 33.2: against a plain search.
func TestPlain(t *testing.T) {
	d := dice(99)
	good := 0
	for range 6000 {
		h := longer(&d)
		ops, _ := hist.Ops(h)
		want, is := plain(treap(), ops, map[int]bool{}, model.State{}, nil)
		l, ok, e := lin.Check(treap(), h)
		if !slices.Equal(l, want) || ok != is || e != api.OK {
			t.Fatalf("%v: %v, %v, %v, want %v, %v", h, l, ok, e, want, is)
		}
		if ok {
			good++
		}
	}
	if good < 1000 || good > 5000 {
		t.Errorf("%d histories were linearizable: the test is worth little", good)
	}
}

// Promise 33.2: entries one after the other.
func TestSequence(t *testing.T) {
	d := dice(3)
	for range 200 {
		var h []api.Event
		var s model.State
		right := true
		for i := range 20 {
			c := api.Call{Op: 1 + d.roll(6), Key: strconv.Itoa(d.roll(3)), Val: strconv.Itoa(i), Old: strconv.Itoa(i - 2)}
			a, _ := model.Answer(treap(), s, c)
			if d.roll(40) == 0 {
				a = yes(strconv.Itoa(d.roll(20)))
			}
			next, ok := model.Step(treap(), s, c, a)
			s = next
			right = right && ok
			h = append(h, begin(i%3, c), end(i%3, c, a))
		}
		if l, ok, _ := lin.Check(treap(), h); ok != right || ok && !slices.IsSorted(l) {
			t.Errorf("%v: %v, %v, want %v", h, l, ok, right)
		}
	}
}

// Promise 33.1: many operations at once.
func TestMany(t *testing.T) {
	var h, more []api.Event
	var want []int
	for i := range 59 {
		c := api.Call{Op: api.OpPut, Key: strconv.Itoa(i), Val: "v"}
		h = append(h, begin(i, c))
		more = append(more, end(i, c, api.Answer{}))
		want = append(want, i)
	}
	h = append(h, more...)
	if l, ok, e := lin.Check(treap(), h); !slices.Equal(l, want) || !ok || e != api.OK {
		t.Errorf("59 OpPuts: %v, %v, %v", l, ok, e)
	}
	c := api.Call{Op: api.OpGet, Key: "7"}
	h = append(h, begin(60, c), end(60, c, api.Answer{}))
	if l, ok, e := lin.Check(treap(), h); len(l) != 0 || ok || e != api.OK {
		t.Errorf("and an OpGet that found nothing: %v, %v, %v", l, ok, e)
	}
	h = nil
	for i := range 60 {
		h = append(h, begin(i, api.Call{Op: api.OpAdd, Key: "a", Val: "1"}))
	}
	for i := range 60 {
		a := yes("1")
		if i == 30 || i == 40 {
			a = api.Answer{}
		}
		h = append(h, end(i, api.Call{Op: api.OpAdd, Key: "a", Val: "1"}, a))
	}
	if l, ok, e := lin.Check(treap(), h); len(l) != 0 || ok || e != api.OK {
		t.Errorf("two of 60 OpAdds that found nothing: %v, %v, %v", l, ok, e)
	}
}
