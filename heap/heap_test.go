package heap_test

import (
	"boscage/api"
	"boscage/heap"
	"boscage/node"
	"math"
	"slices"
	"testing"
)

func binds(s ...string) (l []api.Pair) {
	for i := 0; i < len(s); i += 2 {
		l = append(l, api.Pair{Key: s[i], Val: s[i+1]})
	}
	return l
}

// example makes the chapter's heap.
func example() []api.Node {
	return []api.Node{node.Leaf("b", "1"), node.Leaf("a", "2"), node.Branch(5, []api.Ref{1, 2}, 2), node.Tree("m", "3", 0, 0, 1), node.Tree("k", "4", 4, 4, 3)}
}

// twice makes a graph in which each node has two ways to the one before it.
func twice(first api.Node, n int) []api.Node {
	h := []api.Node{first}
	for i := range n {
		h = append(h, node.Branch(3, []api.Ref{api.Ref(i + 1), api.Ref(i + 1)}, 0))
	}
	return h
}

// wrong holds heaps and references with errors.
func wrong() map[*[]api.Node]api.Ref {
	h, e := example(), []api.Node(nil)
	self, next, fresh, bad := []api.Node{node.Inner(1)}, []api.Node{node.Inner(2), node.Leaf("a", "")}, []api.Node{node.Leaf("a", ""), node.Inner(-1)}, []api.Node{node.Leaf("a", ""), {}}
	more := example()
	return map[*[]api.Node]api.Ref{&h: 6, &e: 1, &self: 0, &next: 0, &fresh: 1, &bad: 1, &more: -1}
}

// Promise 17.1.
func TestMay(t *testing.T) {
	for i, h := range [][]api.Node{nil, example(), twice(node.Leaf("a", ""), 9), {node.Inner(1)}, {node.Inner(2), node.Leaf("a", "")}, {node.Leaf("a", ""), node.Inner(-1)}, {{}}, {node.Leaf("a", ""), node.Tree("k", "v", 0, 2, 1)}, {node.Leaf("a", ""), node.Tree("k", "v", 2, 0, 1)}} {
		want := api.ErrForm
		if i < 3 {
			want = api.OK
		}
		if e := heap.May(h); e != want {
			t.Errorf("May(%v) = %v", h, e)
		}
	}
}

// Promises 17.1 and 17.2: errors.
func TestErrors(t *testing.T) {
	for p, r := range wrong() {
		h := *p
		l, bad := heap.Binds(h, r)
		n, worse := heap.Count(h, r)
		d, worst := heap.Depth(h, r)
		if len(l) != 0 || n != 0 || d != 0 || bad != api.ErrForm || worse != api.ErrForm || worst != api.ErrForm {
			t.Errorf("%v, %d: Binds %v, Count %v, Depth %v", h, r, bad, worse, worst)
		}
		if heap.Same(h, r, h, r) || heap.Same(h, r, nil, 0) || heap.Same(nil, 0, h, r) {
			t.Errorf("%v, %d: Same", h, r)
		}
		for k := range heap.Refs(h, r) {
			t.Errorf("%v, %d: Refs yields %d", h, r, k)
		}
	}
	if _, e := heap.Count(example(), math.MaxInt); e != api.ErrForm {
		t.Error("Count of a great reference")
	}
}

// Promises 17.1 to 17.3.
func TestMeasures(t *testing.T) {
	for _, c := range []struct {
		h            []api.Node
		r            api.Ref
		binds        []api.Pair
		count, depth int
		refs         []api.Ref
	}{
		{example(), 0, nil, 0, 0, nil},
		{example(), 1, binds("b", "1"), 1, 1, []api.Ref{1}},
		{example(), 3, binds("b", "1", "a", "2"), 3, 2, []api.Ref{3, 2, 1}},
		{example(), 4, binds("m", "3"), 1, 1, []api.Ref{4}},
		{example(), 5, binds("m", "3", "k", "4", "m", "3"), 2, 2, []api.Ref{5, 4}},
		{nil, 0, nil, 0, 0, nil},
		{[]api.Node{node.Leaf("a", "1"), node.Inner(1)}, 2, binds("a", "1"), 2, 2, []api.Ref{2, 1}},
		{[]api.Node{node.Bucket(binds("b", "1", "a", "2")...), node.Tomb("c", "3"), node.Branch(9, []api.Ref{2, 1}, 7), node.Inner(3)}, 4, binds("c", "3", "a", "2", "b", "1"), 4, 3, []api.Ref{4, 3, 2, 1}},
		{[]api.Node{node.Tree("x", "1", 0, 0, 1), node.Tree("y", "2", 0, 0, 1), node.Tree("z", "3", 2, 1, 3)}, 3, binds("y", "2", "z", "3", "x", "1"), 3, 2, []api.Ref{3, 2, 1}},
		{[]api.Node{node.Tree("a", "1", 0, 0, 1), node.Tree("b", "2", 1, 0, 2), node.Tree("d", "4", 0, 0, 1), node.Tree("e", "5", 3, 0, 2), node.Tree("c", "3", 2, 4, 5)}, 5, binds("a", "1", "b", "2", "c", "3", "d", "4", "e", "5"), 5, 3, []api.Ref{5, 4, 3, 2, 1}},
		{[]api.Node{node.Tree("x", "1", 0, 0, 1), node.Leaf("q", ""), node.Tree("z", "3", 0, 1, 2)}, 3, binds("z", "3", "x", "1"), 2, 2, []api.Ref{3, 1}},
	} {
		l, bad := heap.Binds(c.h, c.r)
		n, worse := heap.Count(c.h, c.r)
		d, worst := heap.Depth(c.h, c.r)
		refs := slices.Collect(heap.Refs(c.h, c.r))
		if !slices.Equal(l, c.binds) || n != c.count || d != c.depth || !slices.Equal(refs, c.refs) || bad+worse+worst != api.OK {
			t.Errorf("%v, %d: %v, %d, %d, %v", c.h, c.r, l, n, d, refs)
		}
		more := append(slices.Clone(c.h), node.Inner(api.Ref(max(len(c.h), 1))))
		if len(c.h) > 0 {
			if again, _ := heap.Binds(more, c.r); !slices.Equal(again, l) || !slices.Equal(slices.Collect(heap.Refs(more, c.r)), refs) || !heap.Same(more, c.r, c.h, c.r) {
				t.Errorf("%v, %d: a node behind it counts", c.h, c.r)
			}
		}
	}
}

// Promise 17.2.
func TestSame(t *testing.T) {
	g := []api.Node{node.Leaf("x", ""), node.Leaf("b", "1"), node.Leaf("a", "2"), node.Branch(5, []api.Ref{2, 3}, 2)}
	if !heap.Same(example(), 3, g, 4) || !heap.Same(g, 4, example(), 3) || !heap.Same(nil, 0, example(), 0) || heap.Same(nil, 0, g, 1) || heap.Same(g, 1, nil, 0) {
		t.Error("the chapter's examples of Same")
	}
	born := example()
	born[0].Birth, born[2].Birth = 7, 8
	if !heap.Same(born, 3, example(), 3) {
		t.Error("the Birth counts")
	}
	// The last nodes of these heaps have different shapes, one by one.
	others := [][]api.Node{
		{node.Leaf("a", "1")}, {node.Leaf("a", "2")}, {node.Leaf("b", "1")}, {node.Tomb("a", "1")}, {node.Leaf("a1", "")}, {node.Leaf("", "a1")},
		{node.Bucket(binds("a", "1", "b", "2")...)}, {node.Bucket(binds("a", "1", "b", "")...)},
		{node.Leaf("a", "1"), node.Inner(1)}, {node.Leaf("a", "1"), node.Inner(1), node.Inner(2)},
		{node.Leaf("a", "1"), node.Branch(1, []api.Ref{1}, 1)}, {node.Leaf("a", "1"), node.Branch(1, []api.Ref{1}, 2)}, {node.Leaf("a", "1"), node.Branch(2, []api.Ref{1}, 1)}, {node.Branch(0, nil, 0)},
		{node.Tree("a", "1", 0, 0, 1)}, {node.Tree("b", "1", 0, 0, 1), node.Tree("a", "1", 0, 1, 1)}, {node.Tree("b", "1", 0, 0, 1), node.Tree("a", "1", 1, 0, 1)},
		{node.Leaf("a", "1"), node.Leaf("b", "1"), node.Branch(3, []api.Ref{1, 2}, 2)}, {node.Leaf("a", "1"), node.Leaf("b", "1"), node.Branch(3, []api.Ref{2, 1}, 2)},
	}
	for i, x := range others {
		for j, y := range others {
			if heap.Same(x, api.Ref(len(x)), y, api.Ref(len(y))) != (i == j) {
				t.Errorf("Same of %v and %v is %v", x, y, i != j)
			}
		}
	}
}

// Promises 17.1 and 17.2: graphs with more ways than can be walked.
func TestWays(t *testing.T) {
	leaf, none := twice(node.Leaf("a", "1"), 90), twice(node.Branch(0, nil, 0), 90)
	other := twice(node.Leaf("a", "2"), 90)
	if d, e := heap.Depth(leaf, 91); d != 91 || e != api.OK {
		t.Errorf("Depth = %d, %v", d, e)
	}
	if n, e := heap.Count(leaf, 91); n != 91 || e != api.OK {
		t.Errorf("Count = %d, %v", n, e)
	}
	if l, e := heap.Binds(none, 91); len(l) != 0 || e != api.OK {
		t.Errorf("Binds = %v, %v", l, e)
	}
	if l, e := heap.Binds(leaf, 11); len(l) != 1024 || e != api.OK {
		t.Errorf("Binds = %d, %v", len(l), e)
	}
	if !heap.Same(leaf, 91, twice(node.Leaf("a", "1"), 95), 91) || heap.Same(leaf, 91, other, 91) || heap.Same(leaf, 91, leaf, 90) {
		t.Error("Same")
	}
}

// Promise 17.2: the iteration.
func TestRefs(t *testing.T) {
	seq := heap.Refs(example(), 3)
	for range 2 {
		if l := slices.Collect(seq); !slices.Equal(l, []api.Ref{3, 2, 1}) {
			t.Errorf("Refs yields %v", l)
		}
	}
	for r := range seq {
		if r != 3 {
			t.Errorf("Refs goes on with %d", r)
		}
		break
	}
}
