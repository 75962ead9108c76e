package model_test

import (
	"boscage/api"
	"boscage/model"
	"boscage/seek"
	"slices"
	"strings"
	"testing"
)

func binds(s ...string) (l []api.Pair) {
	for i := 0; i < len(s); i += 2 {
		l = append(l, api.Pair{Key: s[i], Val: s[i+1]})
	}
	return l
}

func config(kind int) api.Config {
	return api.Config{Kind: kind, Slots: 9, Threads: 2, Handles: 2, Bits: 3}
}

// state makes a state with two snapshots, of which the second has the number of the first.
func state() model.State {
	return model.State{L: binds("a", "1", "b", "2", "d", "4"), H: []model.Held{{Id: 3, L: binds("a", "0", "e", "5")}, {Id: 3, L: binds("x", "x")}, {Id: 5}}}
}

func yes(val string) api.Answer { return api.Answer{Has: true, Val: val} }

// exact compares states without sorting.
func exact(s, t model.State) bool {
	return slices.Equal(s.L, t.L) && slices.EqualFunc(s.H, t.H, func(a, b model.Held) bool { return a.Id == b.Id && slices.Equal(a.L, b.L) })
}

// Promise 31.1.
func TestAnswer(t *testing.T) {
	gone := api.Answer{Code: api.ErrHandle}
	for _, c := range []struct {
		x    api.Call
		want api.Answer
	}{
		{api.Call{Op: api.OpGet, Key: "a"}, yes("1")}, {api.Call{Op: api.OpGet, Key: "c"}, api.Answer{}},
		{api.Call{Op: api.OpPut, Key: "a", Val: "9"}, yes("1")}, {api.Call{Op: api.OpPut, Key: "c", Val: "9"}, api.Answer{}},
		{api.Call{Op: api.OpAdd, Key: "b"}, yes("2")}, {api.Call{Op: api.OpSwap, Key: "b", Old: "x"}, yes("2")}, {api.Call{Op: api.OpDrop, Key: "d"}, yes("4")}, {api.Call{Op: api.OpDrop, Key: ""}, api.Answer{}},
		{api.Call{Op: api.OpFloor, Key: "c"}, api.Answer{Has: true, Key: "b", Val: "2"}}, {api.Call{Op: api.OpFloor, Key: ""}, api.Answer{}},
		{api.Call{Op: api.OpFree, H: 3}, api.Answer{}}, {api.Call{Op: api.OpFree, H: 4}, gone},
		{api.Call{Op: api.OpGetAt, Key: "a", H: 3}, yes("0")}, {api.Call{Op: api.OpGetAt, Key: "x", H: 3}, api.Answer{}}, {api.Call{Op: api.OpGetAt, Key: "a", H: 4}, gone},
		{api.Call{Op: api.OpFirstAt, H: 3}, api.Answer{Has: true, Key: "a", Val: "0"}}, {api.Call{Op: api.OpFirstAt, H: 5}, api.Answer{}}, {api.Call{Op: api.OpFirstAt, H: 0}, gone},
		{api.Call{Op: api.OpNextAt, Key: "a", H: 3}, api.Answer{Has: true, Key: "e", Val: "5"}}, {api.Call{Op: api.OpNextAt, Key: "e", H: 3}, api.Answer{}}, {api.Call{Op: api.OpNextAt, H: 9}, gone},
		{api.Call{Op: api.OpSizeAt, H: 3}, api.Answer{N: 2}}, {api.Call{Op: api.OpSizeAt, H: 5}, api.Answer{}}, {api.Call{Op: api.OpSizeAt, H: 7}, gone},
	} {
		if a, ok := model.Answer(config(api.Treap), state(), c.x); a != c.want || !ok {
			t.Errorf("%v: %v, %v", c.x, a, ok)
		}
	}
	for _, x := range []api.Call{{Op: api.OpSnap}, {Op: api.OpSweep}, {Op: 14}, {}, {Op: api.OpGet, Key: strings.Repeat("k", 17)}, {Op: api.OpFree, H: -1}} {
		if a, ok := model.Answer(config(api.Treap), state(), x); a != (api.Answer{}) || ok {
			t.Errorf("%v: %v, %v", x, a, ok)
		}
	}
	if _, ok := model.Answer(config(api.Hamt), state(), api.Call{Op: api.OpFloor}); ok {
		t.Error("OpFloor of a Hamt has an answer")
	}
}

// Promise 31.1: the order of a configuration.
func TestOrder(t *testing.T) {
	keys := []string{"a", "b", "c", "d", "e", "f", "g", "h"}
	s := model.State{H: []model.Held{{Id: 0, L: binds("h", "", "g", "", "f", "", "e", "", "d", "", "c", "", "b", "", "a", "")}}}
	for _, kind := range []int{api.Hamt, api.Treap, api.Ctrie} {
		c := config(kind)
		want := slices.Clone(keys)
		slices.SortFunc(want, func(a, b string) int {
			if model.Before(c, a, b) {
				return -1
			}
			return 1
		})
		for _, a := range keys {
			for _, b := range keys {
				before := seek.Before(a, b, c.Bits)
				if kind == api.Treap {
					before = a < b
				}
				if model.Before(c, a, b) != before {
					t.Errorf("kind %d: Before(%s, %s) = %v", kind, a, b, !before)
				}
			}
		}
		var got []string
		a, ok := model.Answer(c, s, api.Call{Op: api.OpFirstAt})
		for ok && a.Has && len(got) < 9 {
			got = append(got, a.Key)
			a, ok = model.Answer(c, s, api.Call{Op: api.OpNextAt, Key: a.Key})
		}
		if !slices.Equal(got, want) {
			t.Errorf("kind %d: the iteration yields %v, want %v", kind, got, want)
		}
	}
	if !model.Before(api.Config{Kind: api.Treap, Bits: -1}, "a", "b") || !model.Before(api.Config{Kind: 9}, "a", "b") || model.Before(api.Config{}, "b", "a") {
		t.Error("the order of an invalid configuration")
	}
}

// Promises 31.1 and 31.3.
func TestAfter(t *testing.T) {
	for _, c := range []struct {
		x    api.Call
		want model.State
		ok   bool
	}{
		{api.Call{Op: api.OpPut, Key: "c", Val: "9"}, model.State{L: binds("a", "1", "b", "2", "c", "9", "d", "4"), H: state().H}, true},
		{api.Call{Op: api.OpPut, Key: "a", Val: "1"}, state(), false},
		{api.Call{Op: api.OpAdd, Key: "a", Val: "9"}, state(), false}, {api.Call{Op: api.OpAdd, Key: "e"}, model.State{L: binds("a", "1", "b", "2", "d", "4", "e", ""), H: state().H}, true},
		{api.Call{Op: api.OpSwap, Key: "a", Val: "9", Old: "1"}, model.State{L: binds("a", "9", "b", "2", "d", "4"), H: state().H}, true},
		{api.Call{Op: api.OpSwap, Key: "a", Val: "9", Old: "2"}, state(), false}, {api.Call{Op: api.OpSwap, Key: "c", Val: "9"}, state(), false}, {api.Call{Op: api.OpSwap, Key: "a", Val: "1", Old: "1"}, state(), false},
		{api.Call{Op: api.OpDrop, Key: "b"}, model.State{L: binds("a", "1", "d", "4"), H: state().H}, true}, {api.Call{Op: api.OpDrop, Key: "c"}, state(), false},
		{api.Call{Op: api.OpFree, H: 3}, model.State{L: state().L, H: state().H[1:]}, true}, {api.Call{Op: api.OpFree, H: 9}, state(), false},
		{api.Call{Op: api.OpGet, Key: "a"}, state(), false}, {api.Call{Op: api.OpFloor, Key: "a"}, state(), false}, {api.Call{Op: api.OpSnap}, state(), false}, {api.Call{Op: api.OpSweep}, state(), false}, {api.Call{Op: api.OpSizeAt, H: 3}, state(), false},
		{api.Call{Op: 14}, state(), false}, {api.Call{Op: api.OpDrop, Key: strings.Repeat("k", 17)}, state(), false}, {api.Call{Op: api.OpPut, Val: strings.Repeat("k", 17)}, state(), false},
	} {
		s := state()
		got, ok := model.After(config(api.Treap), s, c.x)
		if !exact(got, c.want) || ok != c.ok {
			t.Errorf("%v: %v, %v", c.x, got, ok)
		}
		for i := range got.L {
			got.L[i].Val = "changed"
		}
		for i := range got.H {
			for j := range got.H[i].L {
				got.H[i].L[j].Val = "changed"
			}
			got.H[i].Id = 77
		}
		if !exact(s, state()) {
			t.Errorf("%v shares memory with the state", c.x)
		}
	}
	if _, ok := model.After(api.Config{}, state(), api.Call{Op: api.OpPut, Key: "q"}); ok {
		t.Error("an invalid configuration has a state after an operation")
	}
	loose := model.State{L: binds("b", "1", "a", "1", "b", "2")}
	if got, ok := model.After(config(api.Hamt), loose, api.Call{Op: api.OpDrop, Key: "a"}); !ok || !slices.Equal(got.L, binds("b", "2")) {
		t.Errorf("of a list that is not sorted: %v", got)
	}
}

// Promise 31.2: the chapter's example.
func TestSteps(t *testing.T) {
	var s model.State
	c := config(api.Treap)
	for i, x := range []struct {
		x  api.Call
		a  api.Answer
		ok bool
	}{
		{api.Call{Op: api.OpPut, Key: "a", Val: "1"}, api.Answer{}, true},
		{api.Call{Op: api.OpSnap}, api.Answer{N: 3}, true}, {api.Call{Op: api.OpSnap}, api.Answer{N: 3}, false},
		{api.Call{Op: api.OpAdd, Key: "a", Val: "2"}, yes("1"), true},
		{api.Call{Op: api.OpSwap, Key: "a", Val: "2", Old: "1"}, yes("1"), true},
		{api.Call{Op: api.OpPut, Key: "b"}, api.Answer{Code: api.ErrFull}, true},
		{api.Call{Op: api.OpPut, Key: "c", Val: "9"}, api.Answer{}, true},
		{api.Call{Op: api.OpFloor, Key: "b"}, api.Answer{Has: true, Key: "a", Val: "2"}, true},
		{api.Call{Op: api.OpGetAt, Key: "a", H: 3}, yes("1"), true},
		{api.Call{Op: api.OpSizeAt, H: 3}, api.Answer{N: 1}, true},
		{api.Call{Op: api.OpNextAt, Key: "a", H: 3}, api.Answer{}, true},
		{api.Call{Op: api.OpFree, H: 3}, api.Answer{}, true},
		{api.Call{Op: api.OpFirstAt, H: 3}, api.Answer{Code: api.ErrHandle}, true},
		{api.Call{Op: api.OpSweep}, api.Answer{N: 5}, true},
		{api.Call{Op: api.OpDrop, Key: "x"}, yes(""), false},
	} {
		next, ok := model.Step(c, s, x.x, x.a)
		if ok != x.ok || !ok && !exact(next, s) {
			t.Errorf("step %d: %v, %v", i, next, ok)
		}
		s = next
	}
	if !slices.Equal(s.L, binds("a", "2", "c", "9")) || len(s.H) != 0 {
		t.Errorf("at the end: %v", s)
	}
	if _, ok := model.After(c, s, api.Call{Op: api.OpPut, Key: "c", Val: "9"}); ok {
		t.Error("binding a key to its value changes the state")
	}
}

// Promise 31.2: what else is permitted, and what is not.
func TestPermitted(t *testing.T) {
	full := api.Answer{Code: api.ErrFull}
	c := config(api.Treap)
	for op := range 15 {
		x := api.Call{Op: op, Key: "a", Val: "7", Old: "1", H: 3}
		want := op == api.OpPut || op == api.OpAdd || op == api.OpSwap || op == api.OpDrop || op == api.OpSnap
		if s, ok := model.Step(c, state(), x, full); ok != want || !exact(s, state()) {
			t.Errorf("Op %d may have ErrFull: %v, %v", op, ok, s)
		}
		for _, a := range []api.Answer{{Code: api.ErrFull, N: 1}, {Code: api.ErrFull, Has: true}, {Code: api.ErrArg}, {Has: true, Val: "?"}, {N: -1}, {N: 9, Has: true}, {N: 9, Val: "v"}, {N: 9, Key: "k"}} {
			if s, ok := model.Step(c, state(), x, a); ok || !exact(s, state()) {
				t.Errorf("Op %d may have %v", op, a)
			}
		}
	}
	s, ok := model.Step(c, state(), api.Call{Op: api.OpSnap}, api.Answer{})
	if !ok || len(s.H) != 4 || s.H[3].Id != 0 || !slices.Equal(s.H[3].L, state().L) || !slices.Equal(s.L, state().L) {
		t.Errorf("after OpSnap: %v, %v", s, ok)
	} else if s.H[3].L[0].Val = "changed"; s.L[0].Val != "1" {
		t.Error("two lists of the state share memory")
	}
	if s, ok := model.Step(c, state(), api.Call{Op: api.OpSweep}, api.Answer{}); !ok || !exact(s, state()) {
		t.Errorf("after OpSweep: %v, %v", s, ok)
	}
	if s, ok := model.Step(api.Config{}, state(), api.Call{Op: api.OpSweep}, api.Answer{}); ok || !exact(s, state()) {
		t.Errorf("of an invalid configuration: %v, %v", s, ok)
	}
}

// Promise 31.2.
func TestSame(t *testing.T) {
	loose := state()
	loose.L = binds("d", "4", "a", "0", "b", "2", "a", "1")
	loose.H[0].L = binds("e", "5", "a", "0")
	if !model.Same(state(), state()) || !model.Same(loose, state()) || !model.Same(model.State{}, model.State{L: []api.Pair{}, H: []model.Held{}}) {
		t.Error("equal states are not the Same")
	}
	others := []model.State{{}, {L: state().L}, {H: state().H}, {L: binds("a", "1"), H: state().H}, {L: state().L, H: state().H[1:]}, {L: state().L, H: state().H[:2]}}
	id, swapped := state(), state()
	id.H[0].Id = 4
	swapped.H[0], swapped.H[2] = swapped.H[2], swapped.H[0]
	held := state()
	held.H[2].L = binds("q", "")
	for _, s := range append(others, id, swapped, held) {
		if model.Same(s, state()) || model.Same(state(), s) {
			t.Errorf("%v is the Same", s)
		}
	}
}
