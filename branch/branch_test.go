package branch_test

import (
	"boscage/api"
	"boscage/branch"
	"boscage/node"
	"math"
	"slices"
	"testing"
)

// example makes the chapter's branch.
func example() api.Node {
	return node.Branch(1<<3|1<<9|1<<31, []api.Ref{5, 7, 6}, 0)
}

// others holds nodes that count as a branch without children.
func others() []api.Node {
	born := node.Branch(1, nil, 3)
	born.Birth = 4
	return []api.Node{{}, node.Leaf("a", "1"), node.Inner(7), node.Tree("k", "v", 1, 2, 3), born, node.Branch(1, []api.Ref{0}, 3), {Kind: api.NBranch, Size: -1}}
}

// Promise 19.1.
func TestChild(t *testing.T) {
	for i, want := range map[int]api.Ref{3: 5, 9: 7, 31: 6, 4: 0, 0: 0, 32: 0, 35: 0, -1: 0, math.MinInt: 0, math.MaxInt: 0} {
		if got := branch.Child(example(), i); got != want {
			t.Errorf("Child(b, %d) = %d", i, got)
		}
	}
	for _, n := range others() {
		for i := range 32 {
			if r := branch.Child(n, i); r != 0 {
				t.Errorf("Child(%v, %d) = %d", n, i, r)
			}
		}
	}
}

// Promises 19.1 and 19.3.
func TestWithAndWithout(t *testing.T) {
	b := example()
	b.Size, b.Birth = 9, 4
	before := node.Copy(b)
	for i := -2; i < 40; i++ {
		with, without := branch.With(b, i, 8), branch.Without(b, i)
		for k := range 32 {
			more, less := branch.Child(b, k), branch.Child(b, k)
			if k == i {
				more, less = 8, 0
			}
			if branch.Child(with, k) != more || branch.Child(without, k) != less {
				t.Errorf("chunk %d: With(%d) has %d, Without(%d) has %d", k, i, branch.Child(with, k), i, branch.Child(without, k))
			}
		}
		if node.May(with) != api.OK || node.May(without) != api.OK || with.Size != 9 || without.Size != 9 || with.Birth != 4 || without.Birth != 4 {
			t.Errorf("chunk %d: With %v, Without %v", i, with, without)
		}
		if !node.Same(branch.With(b, i, 0), b) {
			t.Errorf("With(b, %d, 0) = %v", i, branch.With(b, i, 0))
		}
		for _, n := range []api.Node{with, without} {
			for k := range n.Kids {
				n.Kids[k] = 77
			}
		}
	}
	if !node.Same(b, before) {
		t.Errorf("the branch became %v", b)
	}
	if n := branch.With(b, 9, 8); !slices.Equal(n.Kids, []api.Ref{5, 8, 6}) {
		t.Errorf("With(b, 9, 8) = %v", n)
	}
	if n := branch.Without(branch.Without(example(), 3), 31); !slices.Equal(n.Kids, []api.Ref{7}) {
		t.Errorf("without two children: %v", n)
	}
}

// Promises 19.1 and 19.2: nodes that are no branches.
func TestOthers(t *testing.T) {
	empty := node.Branch(0, nil, 0)
	for _, n := range others() {
		if !node.Same(branch.With(n, 5, 1025), node.Branch(1<<5, []api.Ref{1025}, 0)) || !node.Same(branch.With(n, 32, 1), empty) || !node.Same(branch.With(n, 5, 0), empty) || !node.Same(branch.Without(n, 0), empty) {
			t.Errorf("%v counts as another branch", n)
		}
		if r, ok := branch.Only(n); r != 0 || ok || !node.Same(branch.Sized(n, 4), node.Branch(0, nil, 4)) || !node.Same(branch.Sized(n, -1), empty) {
			t.Errorf("%v: Only %d, %v", n, r, ok)
		}
	}
}

// Promise 19.2.
func TestOnlyAndSized(t *testing.T) {
	if r, ok := branch.Only(example()); r != 0 || ok {
		t.Errorf("Only(b) = %d, %v", r, ok)
	}
	if r, ok := branch.Only(branch.Without(branch.Without(example(), 3), 31)); r != 7 || !ok {
		t.Errorf("Only = %d, %v", r, ok)
	}
	if r, ok := branch.Only(branch.With(node.Branch(0, nil, 0), 5, 1025)); r != 1025 || !ok {
		t.Errorf("Only = %d, %v", r, ok)
	}
	if r, ok := branch.Only(node.Branch(0, nil, 0)); r != 0 || ok {
		t.Errorf("Only of no children = %d, %v", r, ok)
	}
	b := example()
	b.Size, b.Birth = 2, 3
	for size, want := range map[int]int{4: 4, 0: 0, -1: 2, math.MinInt: 2, math.MaxInt: math.MaxInt} {
		n := branch.Sized(b, size)
		if n.Size != want || n.Birth != 3 || !slices.Equal(n.Kids, b.Kids) {
			t.Errorf("Sized(b, %d) = %v", size, n)
		}
		n.Kids[0] = 77
	}
	if b.Kids[0] != 5 {
		t.Error("Sized shares memory")
	}
}
