package tree_test

import (
	"boscage/api"
	"boscage/heap"
	"boscage/node"
	"boscage/pair"
	"boscage/pri"
	"boscage/tree"
	"slices"
	"strconv"
	"strings"
	"testing"
)

func binds(s ...string) (l []api.Pair) {
	for i := 0; i < len(s); i += 2 {
		l = append(l, api.Pair{Key: s[i], Val: s[i+1]})
	}
	return l
}

func many(n int) (l []api.Pair) {
	for i := range n {
		l = append(l, api.Pair{Key: "k" + strconv.Itoa(i*7%n), Val: strconv.Itoa(i)})
	}
	return l
}

// holds checks by the chapter's words that r is the tree of sorted bindings, and returns its depth.
func holds(t *testing.T, h []api.Node, r api.Ref, l []api.Pair) int {
	t.Helper()
	if len(l) == 0 || r == 0 {
		if len(l) != 0 || r != 0 {
			t.Fatalf("%d bindings below %d", len(l), r)
		}
		return 0
	}
	n := h[r-1]
	at := slices.IndexFunc(l, func(p api.Pair) bool { return p.Key == n.Key })
	for _, p := range l {
		if at < 0 || pri.Above(p.Key, n.Key) {
			t.Fatalf("%q is above %q", p.Key, n.Key)
		}
	}
	if !node.Same(n, node.Tree(l[at].Key, l[at].Val, n.Kids[0], n.Kids[1], len(l))) {
		t.Fatalf("the node of %q is %v", n.Key, n)
	}
	return max(holds(t, h, n.Kids[0], l[:at]), holds(t, h, n.Kids[1], l[at+1:])) + 1
}

// Promises 25.1 to 25.3.
func TestMake(t *testing.T) {
	for _, l := range [][]api.Pair{nil, binds("a", "1"), binds("a", "1", "a", "2"), binds("c", "", "a", "", "b", ""), binds("", "x", "\xff", "y"), many(50), many(400)} {
		h, r, e := tree.Make(l...)
		sorted := pair.Make(l...)
		if e != api.OK || heap.May(h) != api.OK || len(h) != len(sorted) {
			t.Fatalf("Make(%v): %v, %d nodes", l, e, len(h))
		}
		depth := holds(t, h, r, sorted)
		got, _ := heap.Binds(h, r)
		if d, _ := heap.Depth(h, r); d != depth || tree.Depth(l...) != depth || !slices.Equal(got, sorted) || !tree.Is(h, r) {
			t.Errorf("%d bindings: depth %d, Depth %d, in order %v", len(sorted), depth, tree.Depth(l...), got)
		}
	}
	h, r, _ := tree.Make(binds("c", "", "a", "", "b", "")...)
	if top, _ := pri.Top("a", "b", "c"); h[r-1].Key != top {
		t.Errorf("the root has the key %q", h[r-1].Key)
	}
	if tree.Depth() != 0 || tree.Depth(binds("a", "", "b", "")...) != 2 {
		t.Error("the chapter's examples of Depth")
	}
}

// Promises 25.1 and 25.2: strings that are too long.
func TestLong(t *testing.T) {
	long := strings.Repeat("k", 17)
	for _, l := range [][]api.Pair{binds(long, ""), binds("a", "", "", long)} {
		if h, r, e := tree.Make(l...); len(h) != 0 || r != 0 || e != api.ErrLong {
			t.Errorf("a long string: %v, %d, %v", h, r, e)
		}
	}
	if _, _, e := tree.Make(binds(long[1:], long[1:])...); e != api.OK {
		t.Error("strings of 16 bytes")
	}
	if _, _, e := tree.Make(binds("a", long, "a", "1")...); e != api.OK {
		t.Error("a long value that sorting drops counts")
	}
	if d := tree.Depth(binds(long, "", "a", long)...); d != 2 {
		t.Errorf("Depth of long strings = %d", d)
	}
}

// Promise 25.2.
func TestIs(t *testing.T) {
	h, r, _ := tree.Make(many(20)...)
	size, born, swapped := slices.Clone(h), slices.Clone(h), slices.Clone(h)
	size[r-1].Size = 9
	born[0].Birth = 9
	swapped[r-1] = node.Copy(swapped[r-1])
	slices.Reverse(swapped[r-1].Kids)
	leaf := node.Tree("a", "1", 0, 0, 1)
	twice := []api.Node{leaf}
	for i := range 80 {
		twice = append(twice, node.Tree(strconv.Itoa(i), "", api.Ref(i+1), api.Ref(i+1), 3))
	}
	low, _ := pri.Top("a", "b")
	high := "a"
	if low == "a" {
		low, high = "b", "a"
	} else {
		low, high = "a", "b"
	}
	upside := []api.Node{node.Tree(high, "", 0, 0, 1), node.Tree(low, "", 1, 0, 2)}
	if high > low {
		upside[1].Kids = []api.Ref{0, 1}
	}
	for i, c := range []struct {
		h    []api.Node
		r    api.Ref
		want bool
	}{
		{nil, 0, true}, {h, r, true}, {h, 0, true}, {born, r, true}, {size, r, false}, {swapped, r, false}, {h, 21, false}, {h, -1, false}, {h, 1, h[0].Size == 1},
		{[]api.Node{leaf}, 1, true}, {[]api.Node{leaf, {}}, 1, false}, {[]api.Node{node.Leaf("a", "1")}, 1, false}, {[]api.Node{leaf, node.Inner(1)}, 2, false}, {[]api.Node{node.Branch(0, nil, 0)}, 1, false},
		{upside, 2, false}, {twice, 2, false}, {twice, 81, false},
	} {
		if got := tree.Is(c.h, c.r); got != c.want {
			t.Errorf("case %d: Is = %v", i, got)
		}
	}
}
