package plan_test

import (
	"boscage/api"
	"boscage/node"
	"boscage/plan"
	"math"
	"slices"
	"testing"
)

// example makes the chapter's plan.
func example() plan.Plan {
	return plan.Plan{New: []api.Node{node.Leaf("c", "3"), node.Branch(3, []api.Ref{1, -1}, 2)}, Root: -2, Old: []api.Ref{1}}
}

func same(a, b []api.Node) bool { return slices.EqualFunc(a, b, node.Same) }

// Promise 18.1.
func TestMay(t *testing.T) {
	leaf := node.Leaf("a", "1")
	for _, c := range []struct {
		p    plan.Plan
		want api.Errno
	}{
		{plan.Plan{}, api.OK},
		{example(), api.OK},
		{plan.Plan{Root: 7, Old: []api.Ref{5, 5, math.MaxInt}}, api.OK},
		{plan.Plan{New: []api.Node{leaf}}, api.OK},
		{plan.Plan{New: []api.Node{node.Tree("k", "v", 0, 0, 1), node.Tree("k", "v", 0, -1, 1)}, Root: -1}, api.OK},
		{plan.Plan{New: []api.Node{node.Inner(-1)}}, api.ErrForm},
		{plan.Plan{New: []api.Node{node.Inner(-2), leaf}}, api.ErrForm},
		{plan.Plan{New: []api.Node{leaf, node.Tree("k", "v", 4, -2, 1)}}, api.ErrForm},
		{plan.Plan{New: []api.Node{leaf, node.Inner(math.MinInt)}}, api.ErrForm},
		{plan.Plan{New: []api.Node{leaf, {}}}, api.ErrForm},
		{plan.Plan{New: []api.Node{node.Inner(0)}}, api.ErrForm},
		{plan.Plan{Root: -1}, api.ErrForm},
		{plan.Plan{New: []api.Node{leaf}, Root: -2}, api.ErrForm},
		{plan.Plan{New: []api.Node{leaf}, Root: math.MinInt}, api.ErrForm},
		{plan.Plan{Old: []api.Ref{1, 0}}, api.ErrForm},
		{plan.Plan{Old: []api.Ref{-1}, New: []api.Node{leaf}}, api.ErrForm},
	} {
		if e := plan.May(c.p); e != c.want {
			t.Errorf("May(%v) = %v", c.p, e)
		}
	}
}

// Promise 18.1.
func TestRefAndFill(t *testing.T) {
	to := []api.Ref{7, 9}
	for r, want := range map[api.Ref]api.Ref{0: 0, 5: 5, -1: 7, -2: 9, math.MaxInt: math.MaxInt} {
		if got, e := plan.Ref(r, to); got != want || e != api.OK {
			t.Errorf("Ref(%d) = %d, %v", r, got, e)
		}
	}
	for _, r := range []api.Ref{-3, math.MinInt} {
		if got, e := plan.Ref(r, to); got != 0 || e != api.ErrForm {
			t.Errorf("Ref(%d) = %d, %v", r, got, e)
		}
	}
	for _, c := range []struct {
		n, want api.Node
		code    api.Errno
	}{
		{node.Inner(-2), node.Inner(9), api.OK},
		{node.Inner(-3), api.Node{}, api.ErrForm},
		{node.Inner(0), node.Inner(0), api.OK},
		{node.Leaf("a", "1"), node.Leaf("a", "1"), api.OK},
		{node.Branch(7, []api.Ref{-1, 3, -2}, 4), node.Branch(7, []api.Ref{7, 3, 9}, 4), api.OK},
		{node.Branch(7, []api.Ref{-1, 3, -3}, 4), api.Node{}, api.ErrForm},
		{node.Tree("k", "v", 0, -1, 2), node.Tree("k", "v", 0, 7, 2), api.OK},
		{api.Node{Kind: 9, Kids: []api.Ref{-1}, Main: -2, Birth: -4}, api.Node{Kind: 9, Kids: []api.Ref{7}, Main: 9, Birth: -4}, api.OK},
	} {
		before := node.Copy(c.n)
		got, e := plan.Fill(c.n, to)
		if !node.Same(got, c.want) || e != c.code {
			t.Errorf("Fill(%v) = %v, %v", c.n, got, e)
		}
		for i := range got.Kids {
			got.Kids[i] = 77
		}
		if !node.Same(before, c.n) {
			t.Errorf("Fill changed %v", before)
		}
	}
}

// Promises 18.2 and 18.3.
func TestDo(t *testing.T) {
	h := []api.Node{node.Leaf("a", "1")}
	p := example()
	out, root, e := plan.Do(h, p)
	if e != api.OK || root != 3 || len(out) != 3 || !slices.Equal(out[2].Kids, []api.Ref{1, 2}) || !node.Same(out[0], h[0]) || !node.Same(out[1], node.Leaf("c", "3")) {
		t.Errorf("the chapter's example: %v, %d, %v", out, root, e)
	}
	out[2].Kids[1] = 9
	out[0].Key = "z"
	if !same(p.New, example().New) || h[0].Key != "a" {
		t.Error("Do shares memory with its arguments")
	}
	if out, root, e := plan.Do([]api.Node{node.Leaf("a", ""), node.Leaf("b", "")}, plan.Plan{New: []api.Node{node.Leaf("c", "")}, Root: -1}); root != 3 || len(out) != 3 || e != api.OK {
		t.Errorf("a leaf on two nodes: %d, %v", root, e)
	}
	deep := []api.Node{node.Leaf("a", ""), node.Branch(1, []api.Ref{1}, 1)}
	if out, root, e := plan.Do(deep, plan.Plan{Root: 1, Old: []api.Ref{2}}); root != 1 || !same(out, deep) || e != api.OK {
		t.Errorf("a plan without New nodes: %v, %d, %v", out, root, e)
	} else if out[1].Kids[0] = 5; deep[1].Kids[0] != 1 {
		t.Error("Do shares memory with its heap")
	}
	if out, root, e := plan.Do(nil, plan.Plan{}); root != 0 || len(out) != 0 || e != api.OK {
		t.Errorf("nothing: %v, %d, %v", out, root, e)
	}
	for _, c := range []struct {
		h []api.Node
		p plan.Plan
	}{
		{nil, example()},
		{h, plan.Plan{Old: []api.Ref{2}}},
		{h, plan.Plan{Root: 2}},
		{h, plan.Plan{New: []api.Node{node.Inner(2)}}},
		{h, plan.Plan{New: []api.Node{node.Tree("k", "v", 1, 2, 1)}}},
		{h, plan.Plan{New: []api.Node{node.Inner(-1)}}},
		{[]api.Node{node.Inner(1)}, plan.Plan{}},
		{[]api.Node{{}}, plan.Plan{}},
	} {
		if out, root, e := plan.Do(c.h, c.p); len(out) != 0 || root != 0 || e != api.ErrForm {
			t.Errorf("Do(%v, %v) = %v, %d, %v", c.h, c.p, out, root, e)
		}
	}
}

// Promise 18.2.
func TestAdd(t *testing.T) {
	p, first := plan.Add(plan.Plan{Root: 4, Old: []api.Ref{8}}, node.Branch(1, []api.Ref{5}, 1))
	q, second := plan.Add(p, node.Leaf("b", ""))
	o, third := plan.Add(p, node.Leaf("c", ""))
	if first != -1 || second != -2 || third != -2 || len(p.New) != 1 || len(q.New) != 2 || q.New[1].Key != "b" || o.New[1].Key != "c" || q.Root != 4 || !slices.Equal(q.Old, []api.Ref{8}) {
		t.Errorf("%d, %d, %d: %v, %v", first, second, third, p, q)
	}
	q.New[0].Kids[0], q.Old[0] = 1, 1
	if p.New[0].Kids[0] != 5 || p.Old[0] != 8 {
		t.Error("Add shares memory with its argument")
	}
}
