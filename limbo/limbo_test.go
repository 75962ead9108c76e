package limbo_test

import (
	"boscage/api"
	"boscage/limbo"
	"math"
	"slices"
	"testing"
)

func a() limbo.Group {
	return limbo.Group{Stamp: 3, Death: 5, L: []limbo.Item{{Ref: 1025, Birth: 2}, {Ref: 1026, Birth: 4}, {Ref: 1027, Birth: 5}}}
}

func b() limbo.Group {
	return limbo.Group{Stamp: 6, Death: 7, L: []limbo.Item{{Ref: 1028, Birth: 1}}}
}

func same(x, y []limbo.Group) bool {
	return slices.EqualFunc(x, y, func(g, h limbo.Group) bool {
		return g.Stamp == h.Stamp && g.Death == h.Death && slices.Equal(g.L, h.L)
	})
}

// refs lists the references of the items.
func refs(l []limbo.Group) (out []api.Ref) {
	for _, g := range l {
		for _, x := range g.L {
			out = append(out, x.Ref)
		}
	}
	return out
}

// Promise 16.1.
func TestSplit(t *testing.T) {
	for _, c := range []struct {
		versions, epochs []int
		free             []api.Ref
		groups           int
	}{
		{[]int{4}, []int{6}, []api.Ref{1027}, 2},
		{nil, nil, []api.Ref{1025, 1026, 1027, 1028}, 0},
		{nil, []int{7}, []api.Ref{1025, 1026, 1027, 1028}, 0},
		{nil, []int{6, 9}, []api.Ref{1025, 1026, 1027}, 1},
		{nil, []int{9, 3}, nil, 2},
		{nil, []int{math.MinInt}, nil, 2},
		{[]int{5}, []int{4}, []api.Ref{1025, 1026, 1027}, 1},
		{[]int{2}, []int{9}, []api.Ref{1026, 1027}, 2},
		{[]int{3, 1}, []int{9}, []api.Ref{1026, 1027}, 2},
		{[]int{0, 7, -1}, nil, []api.Ref{1025, 1026, 1027, 1028}, 0},
		{[]int{6, 4}, nil, []api.Ref{1027}, 2},
	} {
		in := []limbo.Group{a(), {Stamp: 0, Death: 1}, b()}
		free, rest := limbo.Split(in, c.versions, c.epochs)
		if !slices.Equal(free, c.free) || len(rest) != c.groups || limbo.Count(rest)+len(free) != 4 {
			t.Errorf("Split by %v and %v: %v, %v", c.versions, c.epochs, free, rest)
		}
		all := append(slices.Clone(free), refs(rest)...)
		slices.Sort(all)
		if !slices.Equal(all, []api.Ref{1025, 1026, 1027, 1028}) {
			t.Errorf("Split by %v and %v lost or doubled items: %v", c.versions, c.epochs, all)
		}
		for _, g := range rest {
			g.L[0].Ref = 0
		}
		if !same(in, []limbo.Group{a(), {Stamp: 0, Death: 1}, b()}) {
			t.Error("Split shares memory with its argument")
		}
	}
	free, rest := limbo.Split([]limbo.Group{{Stamp: 3, Death: 5, L: []limbo.Item{{Ref: 1, Birth: 2}}}}, []int{5}, []int{4})
	if !slices.Equal(free, []api.Ref{1}) || len(rest) != 0 {
		t.Error("the chapter's example of a free item")
	}
}

// Promise 16.1.
func TestCount(t *testing.T) {
	if limbo.Count([]limbo.Group{a(), b()}) != 4 || limbo.Count(nil) != 0 || limbo.Count([]limbo.Group{{}}) != 0 {
		t.Error("Count")
	}
}

// Promises 16.2 and 16.3.
func TestLists(t *testing.T) {
	x, e := limbo.New(2)
	if e != api.OK || x.Steps() != 0 || len(x.All()) != 0 {
		t.Fatal(e)
	}
	pushed := a()
	if e := x.Push(1, pushed, limbo.Group{Stamp: 9}, b()); e != api.OK {
		t.Error(e)
	}
	pushed.L[0].Ref = 77
	all := x.All()
	if !same(all, []limbo.Group{a(), b()}) {
		t.Errorf("All = %v", all)
	}
	all[0].L[0].Ref = 78
	l, e := x.Grab(1)
	if !same(l, []limbo.Group{a(), b()}) || e != api.OK {
		t.Errorf("Grab = %v, %v", l, e)
	}
	if l, e := x.Grab(1); len(l) != 0 || e != api.OK {
		t.Errorf("a second Grab = %v, %v", l, e)
	}
	if l, e := x.Grab(2); len(l) != 0 || e != api.ErrArg || x.Steps() != 3 {
		t.Errorf("Grab(2) = %v, %v, %d steps", l, e, x.Steps())
	}
	if e := x.Push(0); e != api.OK || x.Steps() != 4 {
		t.Errorf("Push of nothing: %v, %d steps", e, x.Steps())
	}
	x.Push(1, b())
	x.Push(0, a())
	x.Push(1, a())
	if !same(x.All(), []limbo.Group{a(), b(), a()}) {
		t.Errorf("All = %v", x.All())
	}
	for _, i := range []int{-1, 2, math.MaxInt} {
		if e := x.Push(i, a()); e != api.ErrArg || len(x.All()) != 3 {
			t.Errorf("Push(%d): %v", i, e)
		}
	}
}

// Promise 16.2.
func TestInvalid(t *testing.T) {
	for _, n := range []int{-1, 65, math.MinInt, math.MaxInt} {
		if x, e := limbo.New(n); x != nil || e != api.ErrArg {
			t.Errorf("New(%d) = %v, %v", n, x, e)
		}
	}
	for _, n := range []int{0, 64} {
		x, e := limbo.New(n)
		if e != api.OK || x.Push(n, a()) != api.ErrArg || n > 0 && x.Push(n-1, a()) != api.OK {
			t.Errorf("New(%d): %v", n, e)
		}
	}
	for _, x := range []*limbo.Lists{nil, {}} {
		l, e := x.Grab(9)
		if len(l) != 0 || e != api.ErrForm || x.Push(9, a()) != api.ErrForm || len(x.All()) != 0 || x.Steps() != 0 {
			t.Errorf("no lists: %v, %v", l, e)
		}
	}
}
