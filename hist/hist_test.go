package hist_test

import (
	"boscage/api"
	"boscage/hist"
	"math"
	"slices"
	"testing"
)

func snap() api.Call  { return api.Call{Op: api.OpSnap} }
func sweep() api.Call { return api.Call{Op: api.OpSweep} }

// example makes the chapter's history.
func example(t *testing.T) []api.Event {
	t.Helper()
	h, a := hist.Add(nil, 2, snap())
	h, b := hist.Add(h, 0, sweep())
	h, c := hist.End(h, 2, api.Answer{N: 4})
	h, d := hist.Add(h, 2, sweep())
	if a+b+c+d != api.OK || len(h) != 4 {
		t.Fatalf("the example: %v", h)
	}
	return h
}

// wrong holds histories with errors.
func wrong() map[string][]api.Event {
	call := api.Event{T: 1, C: snap()}
	res := api.Event{Res: true, T: 1, C: snap()}
	return map[string][]api.Event{
		"form: response first":          {res},
		"form: two invocations":         {call, call},
		"form: two responses":           {call, res, res},
		"form: response of another":     {call, {Res: true, T: 2, C: snap()}},
		"form: another operation":       {call, {Res: true, T: 1, C: sweep()}},
		"form: another field":           {call, {Res: true, T: 1, C: api.Call{Op: api.OpSnap, H: 1}}},
		"form: invocation with answer":  {{T: 1, C: snap(), A: api.Answer{N: 1}}},
		"form: before a wrong thread":   {res, {T: 64}},
		"arg: thread 64":                {{T: 64, C: snap()}},
		"arg: thread -1":                {{Res: true, T: -1}},
		"arg: before a wrong form":      {call, {T: math.MinInt}, call},
		"arg: wrong thread, wrong form": {{Res: true, T: 64, A: api.Answer{N: 1}}},
		"arg: great thread with answer": {{T: math.MaxInt, A: api.Answer{N: 1}}},
	}
}

// Promises 32.1 and 32.2: errors.
func TestErrors(t *testing.T) {
	for name, h := range wrong() {
		want := api.ErrForm
		if name[:3] == "arg" {
			want = api.ErrArg
		}
		ops, bad := hist.Ops(h)
		l, worse := hist.Pending(h)
		added, addCode := hist.Add(h, 5, snap())
		ended, endCode := hist.End(h, 1, api.Answer{})
		if hist.May(h) != want || bad != want || worse != want || addCode != want || endCode != want {
			t.Errorf("%s: May %v, Ops %v, Pending %v, Add %v, End %v", name, hist.May(h), bad, worse, addCode, endCode)
		}
		if len(ops)+len(l)+len(added)+len(ended) != 0 {
			t.Errorf("%s: results beside an error", name)
		}
	}
}

// Promises 32.1 and 32.2: the chapter's examples.
func TestExample(t *testing.T) {
	h := example(t)
	ops, e := hist.Ops(h)
	want := []hist.Op{{T: 2, C: snap(), A: api.Answer{N: 4}, Done: true, From: 0, To: 2}, {T: 0, C: sweep(), From: 1, To: 4}, {T: 2, C: sweep(), From: 3, To: 4}}
	if !slices.Equal(ops, want) || e != api.OK || hist.May(h) != api.OK {
		t.Errorf("Ops = %v, %v", ops, e)
	}
	if l, e := hist.Pending(h); !slices.Equal(l, []int{0, 2}) || e != api.OK {
		t.Errorf("Pending = %v, %v", l, e)
	}
	for i, a := range ops {
		for j, b := range ops {
			if hist.Ahead(a, b) != (i == 0 && j == 2) {
				t.Errorf("Ahead of %d and %d is %v", i, j, hist.Ahead(a, b))
			}
		}
	}
	early := h[:2:2]
	if l, e := hist.Add(early, 2, sweep()); len(l) != 0 || e != api.ErrForm {
		t.Errorf("Add by thread 2: %v, %v", l, e)
	}
	if l, e := hist.End(early, 1, api.Answer{}); len(l) != 0 || e != api.ErrForm {
		t.Errorf("End by thread 1: %v, %v", l, e)
	}
	for _, thread := range []int{64, -1, math.MinInt} {
		l, add := hist.Add(early, thread, sweep())
		m, end := hist.End(early, thread, api.Answer{})
		if len(l)+len(m) != 0 || add != api.ErrArg || end != api.ErrArg {
			t.Errorf("thread %d: %v, %v", thread, add, end)
		}
	}
	for i, event := range []api.Event{{T: 2, C: snap()}, {T: 0, C: sweep()}, {Res: true, T: 2, C: snap(), A: api.Answer{N: 4}}, {T: 2, C: sweep()}} {
		if h[i] != event {
			t.Errorf("event %d is %v", i, h[i])
		}
	}
}

// Promise 32.1: histories without events, and with all threads.
func TestThreads(t *testing.T) {
	ops, e := hist.Ops(nil)
	l, bad := hist.Pending([]api.Event{})
	if len(ops)+len(l) != 0 || e != api.OK || bad != api.OK || hist.May(nil) != api.OK {
		t.Errorf("nothing: %v, %v", e, bad)
	}
	var h []api.Event
	for i := range 64 {
		h, _ = hist.Add(h, 63-i, api.Call{Op: api.OpGet, Key: "k", H: i})
	}
	h, e = hist.End(h, 40, api.Answer{Has: true})
	if l, _ := hist.Pending(h); e != api.OK || len(l) != 63 || l[0] != 0 || l[39] != 39 || l[40] != 41 || !slices.IsSorted(l) {
		t.Errorf("Pending = %v", l)
	}
	if h[64].C != (api.Call{Op: api.OpGet, Key: "k", H: 23}) {
		t.Errorf("the response is to %v", h[64].C)
	}
}

// Promise 32.2: a result is memory of its own.
func TestCopies(t *testing.T) {
	h := make([]api.Event, 1, 9)
	h[0] = api.Event{T: 1, C: snap()}
	x, _ := hist.Add(h, 2, snap())
	y, _ := hist.End(h, 1, api.Answer{N: 7})
	x[0].T = 9
	if h[0].T != 1 || y[0].T != 1 || x[1].Res || !y[1].Res {
		t.Errorf("%v, %v and %v share memory", h, x, y)
	}
}

// Promise 32.3.
func TestAhead(t *testing.T) {
	var h []api.Event
	busy := map[int]bool{}
	for i := range 300 {
		thread := i * i % 7
		if busy[thread] {
			h, _ = hist.End(h, thread, api.Answer{N: i})
		} else {
			h, _ = hist.Add(h, thread, api.Call{Op: api.OpGet, H: i})
		}
		busy[thread] = !busy[thread]
	}
	ops, _ := hist.Ops(h)
	for _, a := range ops {
		if hist.Ahead(a, a) {
			t.Errorf("%v precedes itself", a)
		}
		for _, b := range ops {
			if a != b && a.T == b.T && hist.Ahead(a, b) == hist.Ahead(b, a) {
				t.Errorf("%v and %v of one thread", a, b)
			}
			for _, c := range ops {
				if hist.Ahead(a, b) && hist.Ahead(b, c) && !hist.Ahead(a, c) {
					t.Errorf("%v, %v, %v: not transitive", a, b, c)
				}
			}
		}
	}
	if hist.Ahead(hist.Op{To: 1}, hist.Op{From: 2}) || hist.Ahead(hist.Op{Done: true, To: 2}, hist.Op{From: 2}) || !hist.Ahead(hist.Op{Done: true, To: 1}, hist.Op{From: 2}) {
		t.Error("Ahead of single entries")
	}
}
