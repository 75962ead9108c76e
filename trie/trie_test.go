package trie_test

import (
	"boscage/api"
	"boscage/hash"
	"boscage/heap"
	"boscage/node"
	"boscage/pair"
	"boscage/trie"
	"math"
	"slices"
	"strconv"
	"strings"
	"testing"
)

func binds(s ...string) (l []api.Pair) {
	for i := 0; i < len(s); i += 2 {
		l = append(l, api.Pair{Key: s[i], Val: s[i+1]})
	}
	return l
}

func many(n int) (l []api.Pair) {
	for i := range n {
		l = append(l, api.Pair{Key: "k" + strconv.Itoa(i*7%n), Val: strconv.Itoa(i)})
	}
	return l
}

func allBits() []int { return []int{math.MinInt, -1, 0, 1, 4, 5, 6, 10, 11, 63, 64, 65, math.MaxInt} }

// holds checks by the chapter's words that r is the trie of sorted bindings at a level.
func holds(h []api.Node, r api.Ref, bits, level int, l []api.Pair) bool {
	if len(l) == 0 || r == 0 {
		return len(l) == 0 && r == 0
	}
	n := h[r-1]
	if len(l) == 1 {
		return node.Same(n, node.Leaf(l[0].Key, l[0].Val))
	}
	if level >= hash.Levels(bits) {
		return node.Same(n, node.Bucket(l...))
	}
	kid := 0
	for chunk := range 32 {
		var part []api.Pair
		for _, p := range l {
			if hash.Chunk(hash.Of(p.Key, bits), level, bits) == chunk {
				part = append(part, p)
			}
		}
		if n.Map>>chunk&1 != uint32(min(len(part), 1)) {
			return false
		}
		if len(part) > 0 {
			if !holds(h, n.Kids[kid], bits, level+1, part) {
				return false
			}
			kid++
		}
	}
	return n.Kind == api.NBranch && n.Size == len(l) && n.Birth == 0 && kid == len(n.Kids)
}

// Promises 20.1 to 20.3.
func TestMake(t *testing.T) {
	for _, bits := range allBits() {
		for _, l := range [][]api.Pair{nil, binds("a", "1"), binds("a", "1", "a", "2"), binds("b", "1", "a", "2"), binds("a", "", "b", "", "c", ""), many(40), many(300)} {
			h, r, e := trie.Make(bits, l...)
			sorted := pair.Make(l...)
			if e != api.OK || heap.May(h) != api.OK || !holds(h, r, bits, 0, sorted) {
				t.Fatalf("Make(%d, %d bindings): %v, %d, %v", bits, len(l), h, r, e)
			}
			got, _ := heap.Binds(h, r)
			if n, _ := heap.Count(h, r); n != len(h) || trie.Count(bits, l...) != n || n > trie.Most(bits, len(sorted)) || !slices.Equal(pair.Make(got...), sorted) || len(got) != len(sorted) {
				t.Errorf("Make(%d, %d bindings): %d nodes, %d bindings, Most %d", bits, len(l), n, len(got), trie.Most(bits, len(sorted)))
			}
			if !trie.Is(h, r, bits) {
				t.Errorf("Is of Make(%d, %d bindings)", bits, len(l))
			}
		}
	}
}

// Promise 20.1: the chapter's examples.
func TestExamples(t *testing.T) {
	h, r, _ := trie.Make(64, binds("a", "", "b", "", "c", "")...)
	if n := h[r-1]; n.Kind != api.NBranch || n.Size != 3 {
		t.Errorf("the root is %v", n)
	}
	h, r, _ = trie.Make(0, binds("b", "1", "a", "2")...)
	if len(h) != 1 || r != 1 || !node.Same(h[0], node.Bucket(binds("a", "2", "b", "1")...)) {
		t.Errorf("with 0 bits: %v, %d", h, r)
	}
	if trie.Count(64) != 0 || trie.Count(64, binds("a", "1")...) != 1 {
		t.Error("Count")
	}
	long := strings.Repeat("k", 17)
	for _, l := range [][]api.Pair{binds(long, ""), binds("a", "", "", long)} {
		if h, r, e := trie.Make(64, l...); len(h) != 0 || r != 0 || e != api.ErrLong {
			t.Errorf("a long string: %v, %d, %v", h, r, e)
		}
	}
	if _, _, e := trie.Make(64, binds(long[1:], long[1:])...); e != api.OK {
		t.Error("strings of 16 bytes")
	}
	if _, _, e := trie.Make(64, binds("a", long, "a", "1")...); e != api.OK {
		t.Error("a long value that sorting drops counts")
	}
	if n := trie.Count(0, binds(long, "", "a", "")...); n != 1 {
		t.Errorf("Count with a long key: %d", n)
	}
}

// Promise 20.2.
func TestIs(t *testing.T) {
	leaf := node.Leaf("a", "1")
	h, r, _ := trie.Make(10, many(300)...)
	inside := slices.IndexFunc(h, func(n api.Node) bool { return n.Kind == api.NBranch }) + 1
	size, born := slices.Clone(h), slices.Clone(h)
	size[r-1].Size++
	born[0].Birth = 9
	loose := []api.Node{{}, leaf}
	for i, c := range []struct {
		h    []api.Node
		r    api.Ref
		bits int
		want bool
	}{
		{nil, 0, 10, true}, {[]api.Node{leaf}, 1, 10, true}, {[]api.Node{leaf}, 0, 10, true}, {[]api.Node{leaf}, 2, 10, false}, {[]api.Node{leaf}, -1, 10, false},
		{h, r, 10, true}, {h, r, 11, false}, {h, r, 4, false}, {h, api.Ref(inside), 10, false}, {size, r, 10, false}, {born, r, 10, true}, {loose, 2, 10, false}, {loose, 0, 10, false},
		{[]api.Node{node.Tomb("a", "1")}, 1, 10, false}, {[]api.Node{leaf, node.Inner(1)}, 2, 10, false}, {[]api.Node{node.Branch(0, nil, 0)}, 1, 10, false},
		{[]api.Node{node.Tree("a", "1", 0, 0, 1)}, 1, 10, false},
		{[]api.Node{leaf, node.Branch(1<<12, []api.Ref{1}, 1)}, 2, 10, false},
		{[]api.Node{leaf, node.Branch(3, []api.Ref{1, 1}, 2)}, 2, 10, false},
		{[]api.Node{node.Bucket(binds("a", "", "b", "")...)}, 1, 0, true}, {[]api.Node{node.Bucket(binds("a", "", "b", "")...)}, 1, 1, false},
	} {
		if got := trie.Is(c.h, c.r, c.bits); got != c.want {
			t.Errorf("case %d: Is = %v", i, got)
		}
	}
	twice := []api.Node{leaf}
	for i := range 80 {
		twice = append(twice, node.Branch(3, []api.Ref{api.Ref(i + 1), api.Ref(i + 1)}, 2))
	}
	if trie.Is(twice, 81, 64) {
		t.Error("a graph with many ways is no trie")
	}
}

// Promise 20.2.
func TestMost(t *testing.T) {
	for _, c := range [][3]int{{64, 3, 42}, {64, -1, 0}, {0, 5, 5}, {5, 1, 2}, {64, 1000000, 14000000}, {64, 1000001, 0}, {-3, 7, 7}, {99, 1, 14}, {64, math.MaxInt, 0}, {64, math.MinInt, 0}} {
		if got := trie.Most(c[0], c[1]); got != c[2] {
			t.Errorf("Most(%d, %d) = %d", c[0], c[1], got)
		}
	}
}
