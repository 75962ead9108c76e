package node_test

import (
	"boscage/api"
	"boscage/node"
	"math"
	"slices"
	"strings"
	"testing"
)

func pairOf(k, v string) api.Pair { return api.Pair{Key: k, Val: v} }

// valid holds a node of each form, with the edges.
func valid() []api.Node {
	long := strings.Repeat("k", 16)
	return []api.Node{
		node.Leaf("", ""), node.Leaf(long, long), node.Tomb("a", "1"),
		node.Branch(0, nil, 0), node.Branch(5, []api.Ref{1025, 1026}, 2), node.Branch(1<<31, []api.Ref{-1}, math.MaxInt),
		node.Bucket(pairOf("b", "1"), pairOf("a", "")), node.Bucket(pairOf("", long), pairOf(long, ""), pairOf("x", "x")),
		node.Tree("k", "v", 0, 1025, 2), node.Tree("", "", 0, 0, 1), node.Tree("k", "v", -4, 7, math.MaxInt),
		node.Inner(7), node.Inner(-1),
		{Kind: api.NBranch, Kids: []api.Ref{}, L: []api.Pair{}},
	}
}

// Promise 13.1.
func TestValid(t *testing.T) {
	for _, n := range valid() {
		for _, birth := range []int{0, 1, math.MaxInt} {
			n.Birth = birth
			if e := node.May(n); e != api.OK {
				t.Errorf("May(%v) = %v", n, e)
			}
		}
		n.Birth = -1
		if e := node.May(n); e != api.ErrForm {
			t.Errorf("May(%v) = %v", n, e)
		}
	}
}

// Promise 13.1: every field that a form does not mention must be zero.
func TestOtherFields(t *testing.T) {
	for _, n := range valid() {
		changed := map[string]api.Node{}
		put := func(name string, change func(n *api.Node)) {
			c := node.Copy(n)
			change(&c)
			changed[name] = c
		}
		put("Main", func(n *api.Node) { n.Main = 9 - n.Main%2 })
		put("Map", func(n *api.Node) { n.Map ^= 2 })
		put("Kids", func(n *api.Node) { n.Kids = append(n.Kids, 1030) })
		put("L", func(n *api.Node) { n.L = append(n.L, pairOf("a", "q")) })
		put("Size", func(n *api.Node) { n.Size = -1 })
		if n.Kind == api.NInner {
			delete(changed, "Main")
		}
		if n.Kind == api.NBranch || n.Kind == api.NBucket || n.Kind == api.NInner {
			put("Key", func(n *api.Node) { n.Key = "k" })
			put("Val", func(n *api.Node) { n.Val = "v" })
		}
		for name, c := range changed {
			if e := node.May(c); e != api.ErrForm {
				t.Errorf("May(%v) with another %s = %v", c, name, e)
			}
		}
	}
}

// Promise 13.1.
func TestInvalid(t *testing.T) {
	long := strings.Repeat("k", 17)
	for _, c := range []struct {
		n    api.Node
		want api.Errno
	}{
		{api.Node{}, api.ErrKind}, {api.Node{Kind: 7, Key: long}, api.ErrKind}, {api.Node{Kind: -1}, api.ErrKind},
		{node.Leaf(long, ""), api.ErrLong}, {node.Leaf("", long), api.ErrLong}, {node.Tomb(long, ""), api.ErrLong},
		{node.Tree(long, "", 0, 0, 0), api.ErrLong}, {node.Bucket(pairOf("a", ""), pairOf("b", long)), api.ErrLong},
		{node.Bucket(pairOf(long, "")), api.ErrLong}, {api.Node{Kind: api.NLeaf, Key: long, Main: 3}, api.ErrLong},
		{api.Node{Kind: api.NLeaf}, api.ErrForm}, {api.Node{Kind: api.NLeaf, Size: 2}, api.ErrForm}, {api.Node{Kind: api.NTomb, Size: 2}, api.ErrForm},
		{node.Branch(5, []api.Ref{1025}, 1), api.ErrForm}, {node.Branch(5, []api.Ref{1025, 0}, 1), api.ErrForm}, {node.Branch(1, nil, 1), api.ErrForm}, {node.Branch(0, []api.Ref{4}, 1), api.ErrForm}, {node.Branch(0, nil, -1), api.ErrForm},
		{node.Bucket(), api.ErrForm}, {node.Bucket(pairOf("a", "1")), api.ErrForm}, {node.Bucket(pairOf("a", "1"), pairOf("a", "2")), api.ErrForm},
		{api.Node{Kind: api.NBucket, L: []api.Pair{pairOf("b", ""), pairOf("a", "")}, Size: 2}, api.ErrForm},
		{api.Node{Kind: api.NBucket, L: []api.Pair{pairOf("a", ""), pairOf("a", "")}, Size: 2}, api.ErrForm},
		{api.Node{Kind: api.NBucket, L: []api.Pair{pairOf("a", ""), pairOf("b", "")}, Size: 3}, api.ErrForm},
		{api.Node{Kind: api.NTree, Size: 1}, api.ErrForm}, {api.Node{Kind: api.NTree, Kids: []api.Ref{1}, Size: 1}, api.ErrForm}, {api.Node{Kind: api.NTree, Kids: []api.Ref{1, 2, 3}, Size: 1}, api.ErrForm}, {node.Tree("k", "v", 0, 0, 0), api.ErrForm},
		{node.Inner(0), api.ErrForm}, {api.Node{Kind: api.NInner, Main: 7, Size: 1}, api.ErrForm},
	} {
		if e := node.May(c.n); e != c.want {
			t.Errorf("May(%v) = %v, want %v", c.n, e, c.want)
		}
	}
}

// Promise 13.1.
func TestConstructors(t *testing.T) {
	for _, c := range []struct{ got, want api.Node }{
		{node.Leaf("a", "1"), api.Node{Kind: 1, Key: "a", Val: "1", Size: 1}},
		{node.Tomb("a", "1"), api.Node{Kind: 6, Key: "a", Val: "1", Size: 1}},
		{node.Tree("k", "v", 3, 1025, 2), api.Node{Kind: 4, Key: "k", Val: "v", Kids: []api.Ref{3, 1025}, Size: 2}},
		{node.Branch(5, []api.Ref{1025, 1026}, 2), api.Node{Kind: 2, Map: 5, Kids: []api.Ref{1025, 1026}, Size: 2}},
		{node.Bucket(pairOf("b", "1"), pairOf("a", "")), api.Node{Kind: 3, L: []api.Pair{pairOf("a", ""), pairOf("b", "1")}, Size: 2}},
		{node.Inner(7), api.Node{Kind: 5, Main: 7}},
	} {
		if !node.Same(c.got, c.want) {
			t.Errorf("got %v, want %v", c.got, c.want)
		}
	}
	kids := []api.Ref{1025}
	b := node.Branch(1, kids, 1)
	kids[0] = 9
	if b.Kids[0] != 1025 {
		t.Error("a branch shares memory with its argument")
	}
}

// Promises 13.2 and 13.3.
func TestCopyAndSame(t *testing.T) {
	l := valid()[:13]
	for i, a := range l {
		for j, b := range l {
			if node.Same(a, node.Copy(b)) != (i == j) {
				t.Errorf("Same(%v, %v) = %v", a, b, i != j)
			}
		}
		c := node.Copy(a)
		for k := range c.Kids {
			c.Kids[k]++
		}
		for k := range c.L {
			c.L[k].Val = "changed"
		}
		if changed := len(c.Kids)+len(c.L) > 0; node.Same(a, c) == changed || !node.Same(a, valid()[i]) {
			t.Errorf("a changed copy of %v is %v", a, c)
		}
	}
	base := api.Node{Kind: 1, Key: "k", Val: "v", Map: 1, Kids: []api.Ref{1}, Main: 1, L: []api.Pair{pairOf("a", "b")}, Size: 1, Birth: 1}
	for _, n := range []api.Node{
		{Kind: 2, Key: "k", Val: "v", Map: 1, Kids: base.Kids, Main: 1, L: base.L, Size: 1, Birth: 1},
		{Kind: 1, Key: "", Val: "v", Map: 1, Kids: base.Kids, Main: 1, L: base.L, Size: 1, Birth: 1},
		{Kind: 1, Key: "k", Val: "", Map: 1, Kids: base.Kids, Main: 1, L: base.L, Size: 1, Birth: 1},
		{Kind: 1, Key: "k", Val: "v", Map: 2, Kids: base.Kids, Main: 1, L: base.L, Size: 1, Birth: 1},
		{Kind: 1, Key: "k", Val: "v", Map: 1, Main: 1, L: base.L, Size: 1, Birth: 1},
		{Kind: 1, Key: "k", Val: "v", Map: 1, Kids: base.Kids, Main: 2, L: base.L, Size: 1, Birth: 1},
		{Kind: 1, Key: "k", Val: "v", Map: 1, Kids: base.Kids, Main: 1, Size: 1, Birth: 1},
		{Kind: 1, Key: "k", Val: "v", Map: 1, Kids: base.Kids, Main: 1, L: base.L, Size: 2, Birth: 1},
		{Kind: 1, Key: "k", Val: "v", Map: 1, Kids: base.Kids, Main: 1, L: base.L, Size: 1, Birth: 2},
	} {
		if node.Same(base, n) || node.Same(n, base) {
			t.Errorf("%v is the Same as %v", n, base)
		}
	}
	if !node.Same(base, base) || !node.Same(api.Node{Kids: []api.Ref{}, L: []api.Pair{}}, api.Node{}) {
		t.Error("equal nodes are not the Same")
	}
}

// Promise 13.2.
func TestRefsAndBinds(t *testing.T) {
	for _, c := range []struct {
		n     api.Node
		refs  []api.Ref
		binds []api.Pair
	}{
		{node.Tree("k", "v", 0, 1025, 2), []api.Ref{1025}, []api.Pair{pairOf("k", "v")}},
		{node.Tree("k", "v", 3, 1025, 2), []api.Ref{3, 1025}, []api.Pair{pairOf("k", "v")}},
		{node.Inner(7), []api.Ref{7}, nil},
		{node.Leaf("a", "1"), nil, []api.Pair{pairOf("a", "1")}},
		{node.Tomb("a", "1"), nil, []api.Pair{pairOf("a", "1")}},
		{node.Branch(5, []api.Ref{9, 4}, 2), []api.Ref{9, 4}, nil},
		{node.Bucket(pairOf("b", "1"), pairOf("a", "")), nil, []api.Pair{pairOf("a", ""), pairOf("b", "1")}},
		{api.Node{}, nil, nil},
		{api.Node{Kind: 9, Key: "k", Kids: []api.Ref{0, 5, 0}, Main: -3, L: []api.Pair{pairOf("a", "b")}}, []api.Ref{5, -3}, nil},
		{api.Node{Kind: api.NBucket, L: []api.Pair{pairOf("b", ""), pairOf("a", "")}}, nil, []api.Pair{pairOf("b", ""), pairOf("a", "")}},
	} {
		refs, binds := node.Refs(c.n), node.Binds(c.n)
		if !slices.Equal(refs, c.refs) || !slices.Equal(binds, c.binds) {
			t.Errorf("%v: Refs %v, Binds %v", c.n, refs, binds)
		}
		for i := range binds {
			binds[i].Key = "changed"
		}
		for i := range refs {
			refs[i] = 99
		}
		if !slices.Equal(node.Binds(c.n), c.binds) || !slices.Equal(node.Refs(c.n), c.refs) {
			t.Errorf("%v shares memory with its Refs or Binds", c.n)
		}
	}
}
