package seek_test

import (
	"boscage/api"
	"boscage/hash"
	"boscage/heap"
	"boscage/node"
	"boscage/seek"
	"boscage/trie"
	"slices"
	"strconv"
	"testing"
)

func binds(s ...string) (l []api.Pair) {
	for i := 0; i < len(s); i += 2 {
		l = append(l, api.Pair{Key: s[i], Val: s[i+1]})
	}
	return l
}

func many(n int) (l []api.Pair) {
	for i := range n {
		l = append(l, api.Pair{Key: "k" + strconv.Itoa(i), Val: strconv.Itoa(i)})
	}
	// The least of all keys is a key too.
	if n > 2 {
		l[2].Key = ""
	}
	return l
}

// example makes the chapter's heap.
func example() []api.Node {
	return []api.Node{node.Bucket(binds("a", "1", "c", "2")...), node.Inner(1), node.Inner(2), node.Leaf("a", "9"), node.Branch(1, []api.Ref{4}, 5)}
}

// concurrent makes the same bindings a concurrent trie's shape: no Sizes, and an NInner above each branch and bucket.
func concurrent(h []api.Node, r api.Ref) ([]api.Node, api.Ref) {
	var out []api.Node
	var visit func(r api.Ref) api.Ref
	visit = func(r api.Ref) api.Ref {
		n := node.Copy(h[r-1])
		for i, k := range n.Kids {
			n.Kids[i] = visit(k)
		}
		if n.Kind == api.NBranch {
			n.Size = 0
		}
		out = append(out, n)
		if n.Kind != api.NLeaf {
			out = append(out, node.Inner(api.Ref(len(out))))
		}
		return api.Ref(len(out))
	}
	if r == 0 {
		return []api.Node{node.Branch(0, nil, 0), node.Inner(1)}, 2
	}
	root := visit(r)
	return out, root
}

// Promise 22.1.
func TestBefore(t *testing.T) {
	if !seek.Before("a", "b", 0) || seek.Before("b", "a", 0) || seek.Before("a", "a", 64) {
		t.Error("the chapter's examples of Before")
	}
	for _, bits := range []int{0, 3, 7, 64} {
		for _, p := range many(30) {
			for _, q := range many(30) {
				x, y := hash.Of(p.Key, bits), hash.Of(q.Key, bits)
				want := hash.Before(x, y, bits) || x == y && p.Key < q.Key
				if seek.Before(p.Key, q.Key, bits) != want {
					t.Errorf("Before(%q, %q, %d) = %v", p.Key, q.Key, bits, !want)
				}
			}
		}
	}
}

// Promise 22.1.
func TestLies(t *testing.T) {
	a := hash.Chunk(hash.Of("a", 8), 0, 8)
	second := hash.Chunk(hash.Of("a", 8), 1, 8)
	leaf := node.Leaf("a", "9")
	empty := node.Branch(0, nil, 0)
	for i, c := range []struct {
		h    []api.Node
		r    api.Ref
		bits int
		want bool
	}{
		{example(), 4, 8, true}, {example(), 1, 8, false}, {example(), 5, 8, false}, {example(), 0, 8, true}, {example(), 6, 8, false}, {example(), -1, 8, false},
		{example(), 1, 0, true}, {example(), 3, 0, true}, {example(), 5, 0, false}, {[]api.Node{leaf, {}}, 1, 8, false}, {[]api.Node{leaf, {}}, 0, 8, false},
		{[]api.Node{leaf, node.Branch(1<<a, []api.Ref{1}, 0)}, 2, 8, true}, {[]api.Node{leaf, node.Branch(1<<a, []api.Ref{1}, 1)}, 2, 8, true}, {[]api.Node{leaf, node.Branch(1<<a, []api.Ref{1}, 2)}, 2, 8, false},
		{[]api.Node{leaf, node.Branch(1<<(a^1), []api.Ref{1}, 1)}, 2, 8, false},
		{[]api.Node{node.Tomb("a", ""), node.Branch(1<<a, []api.Ref{1}, 1)}, 2, 8, true},
		{[]api.Node{leaf, node.Inner(1), node.Branch(1<<a, []api.Ref{2}, 1), node.Inner(3)}, 4, 8, true},
		{[]api.Node{empty}, 1, 8, true}, {[]api.Node{empty, node.Inner(1)}, 2, 8, true}, {[]api.Node{empty, node.Branch(1, []api.Ref{1}, 0)}, 2, 8, false}, {[]api.Node{empty}, 1, 0, false}, {[]api.Node{node.Branch(0, nil, 1)}, 1, 8, false},
		{[]api.Node{leaf, node.Leaf("a", "2"), node.Branch(3, []api.Ref{1, 2}, 0)}, 3, 8, false},
		{[]api.Node{leaf, node.Branch(3, []api.Ref{1, 1}, 0)}, 2, 8, false},
		{[]api.Node{node.Tree("a", "1", 0, 0, 1)}, 1, 8, false},
		{[]api.Node{leaf, node.Branch(1<<second, []api.Ref{1}, 1), node.Branch(1<<a, []api.Ref{2}, 1)}, 3, 8, true},
		{[]api.Node{leaf, node.Branch(1<<second, []api.Ref{1}, 1), node.Branch(1<<a, []api.Ref{2}, 1)}, 3, 5, false},
		{[]api.Node{leaf, node.Branch(1<<(second^1), []api.Ref{1}, 1), node.Branch(1<<a, []api.Ref{2}, 1)}, 3, 8, false},
	} {
		if got := seek.Lies(c.h, c.r, c.bits); got != c.want {
			t.Errorf("case %d: Lies = %v", i, got)
		}
	}
	// Chunk 16 of the last level shifts to nothing, but is no chunk of any hash.
	h, path := []api.Node{leaf}, hash.Of("a", 64)
	for level := 12; level >= 0; level-- {
		chunk := hash.Chunk(path, level, 64)
		if level == 12 {
			chunk |= 16
		}
		h = append(h, node.Branch(1<<chunk, []api.Ref{api.Ref(len(h))}, 0))
	}
	if seek.Lies(h, 14, 64) {
		t.Error("a chunk that no hash has")
	}
	twice := []api.Node{leaf}
	for i := range 80 {
		twice = append(twice, node.Branch(3, []api.Ref{api.Ref(i + 1), api.Ref(i + 1)}, 0))
	}
	if seek.Lies(twice, 81, 64) {
		t.Error("a graph with many ways")
	}
}

// Promise 22.3: the chapter's examples.
func TestExamples(t *testing.T) {
	h := example()
	if p, ok, n := seek.Run(h, 3, 0); p != binds("a", "1")[0] || !ok || n != 3 {
		t.Errorf("Run from 3: %v, %v, %d", p, ok, n)
	}
	for _, key := range []string{"a", "b"} {
		if p, ok, n := seek.Next(h, 3, key, 0); p != binds("c", "2")[0] || !ok || n != 3 {
			t.Errorf("Next after %s: %v, %v, %d", key, p, ok, n)
		}
	}
	if p, ok, n := seek.Next(h, 3, "c", 0); p != (api.Pair{}) || ok || n > 3 {
		t.Errorf("Next after c: %v, %v, %d", p, ok, n)
	}
	if l, n := seek.All(h, 3, 0); l != 2 || n != 3 {
		t.Errorf("All from 3: %d, %d", l, n)
	}
	if p, ok, n := seek.Run(h, 5, 0); p != (api.Pair{}) || ok || n != 0 {
		t.Errorf("Run from 5: %v, %v, %d", p, ok, n)
	}
	if p, ok, n := seek.Next(h, 5, "", 0); p != (api.Pair{}) || ok || n != 0 {
		t.Errorf("Next from 5: %v, %v, %d", p, ok, n)
	}
	if l, n := seek.All(h, 0, 0); l != 0 || n != 0 {
		t.Errorf("All from 0: %d, %d", l, n)
	}
	if l, n := seek.All(h, 5, 0); l != 0 || n != 0 {
		t.Errorf("All from 5: %d, %d", l, n)
	}
	one, r, _ := trie.Make(64, binds("a", "1")...)
	first, is, _ := seek.Run(one, r, 64)
	_, more, _ := seek.Next(one, r, "a", 64)
	l, _ := seek.All(one, r, 64)
	if first != binds("a", "1")[0] || !is || more || l != 1 {
		t.Error("the trie of one binding")
	}
}

// Promise 22.2.
func TestFeed(t *testing.T) {
	s := seek.First(3)
	if p, ok := s.Answer(); s.Want() != 3 || p != (api.Pair{}) || ok {
		t.Error("a search at first")
	}
	s.Feed(node.Branch(3, []api.Ref{5, 6}, 0))
	if _, ok := s.Answer(); s.Want() != 5 || ok {
		t.Errorf("after a branch it requests %d", s.Want())
	}
	s.Feed(node.Leaf("a", "1"))
	if p, ok := s.Answer(); s.Want() != 0 || p != binds("a", "1")[0] || !ok {
		t.Errorf("after a leaf: %d, %v", s.Want(), p)
	}
	s.Feed(node.Leaf("b", "2"))
	s.Feed(node.Inner(7))
	if p, ok := s.Answer(); s.Want() != 0 || p != binds("a", "1")[0] || !ok {
		t.Errorf("after the end: %d, %v", s.Want(), p)
	}
	c := seek.Count(3)
	c.Feed(node.Branch(3, []api.Ref{5, 6}, 0))
	first := c.Want()
	c.Feed(node.Leaf("a", "1"))
	if c.Answer() != 0 || c.Want() == 0 || c.Want() == first {
		t.Errorf("a count on its way: %d, requests %d", c.Answer(), c.Want())
	}
	c.Feed(node.Bucket(binds("b", "", "c", "")...))
	c.Feed(node.Leaf("d", "1"))
	if c.Want() != 0 || c.Answer() != 3 {
		t.Errorf("a count at its end: %d", c.Answer())
	}
	var none *seek.Seek
	var zero *seek.Sum
	none.Feed(node.Inner(5))
	zero.Feed(node.Inner(5))
	if p, ok := none.Answer(); none.Want() != 0 || zero.Want() != 0 || zero.Answer() != 0 || ok || p != (api.Pair{}) {
		t.Error("a nil search or count")
	}
	if seek.First(0).Want() != 0 || seek.New(0, "a", 9).Want() != 0 || seek.Count(0).Want() != 0 {
		t.Error("from 0 something is requested")
	}
}

// Promise 22.2: feeding other nodes ends.
func TestOtherNodes(t *testing.T) {
	nodes := []api.Node{node.Inner(9), node.Branch(5, []api.Ref{9, 9}, 0), node.Tree("a", "1", 9, 9, 1), {}, node.Inner(0), node.Branch(5, nil, 0), {Kind: api.NBranch, Map: 9, Kids: []api.Ref{0, 0}}, {Kind: 99}}
	for _, s := range []interface {
		Want() api.Ref
		Feed(n api.Node)
	}{seek.First(1), seek.New(1, "a", 64), seek.Count(1)} {
		for range 5 {
			for _, n := range nodes {
				s.Feed(n)
			}
		}
		for i := 0; s.Want() != 0; i++ {
			if i > 100 {
				t.Fatal("feeding does not end")
			}
			s.Feed(api.Node{})
		}
	}
}

// Promises 22.3 and 22.4.
func TestIteration(t *testing.T) {
	for _, bits := range []int{-3, 0, 1, 3, 5, 7, 64, 99} {
		for _, l := range [][]api.Pair{nil, many(1), many(2), many(90)} {
			h, r, _ := trie.Make(bits, l...)
			g, s := concurrent(h, r)
			if bits < 1 {
				g, s = h, r
			}
			want := slices.Clone(l)
			slices.SortFunc(want, func(p, q api.Pair) int {
				if seek.Before(p.Key, q.Key, bits) {
					return -1
				}
				return 1
			})
			check(t, h, r, bits, want)
			check(t, g, s, bits, want)
		}
	}
}

// check iterates over a trie.
func check(t *testing.T, h []api.Node, r api.Ref, bits int, want []api.Pair) {
	t.Helper()
	nodes, _ := heap.Count(h, r)
	if !seek.Lies(h, r, bits) {
		t.Fatalf("%d bits, %d bindings: not well-formed", bits, len(want))
	}
	if n, read := seek.All(h, r, bits); n != len(want) || read > nodes {
		t.Errorf("%d bits, %d bindings: All = %d, %d", bits, len(want), n, read)
	}
	var got []api.Pair
	p, ok, read := seek.Run(h, r, bits)
	for ok && len(got) <= len(want) {
		if read > nodes {
			t.Errorf("%d nodes of %d received", read, nodes)
		}
		got = append(got, p)
		p, ok, read = seek.Next(h, r, p.Key, bits)
	}
	if !slices.Equal(got, want) {
		t.Errorf("%d bits: %v, want %v", bits, got, want)
	}
	for i := range 20 {
		key := "other" + strconv.Itoa(i)
		at := slices.IndexFunc(want, func(p api.Pair) bool { return seek.Before(key, p.Key, bits) })
		p, ok, _ := seek.Next(h, r, key, bits)
		if ok != (at >= 0) || ok && p != want[at] {
			t.Errorf("%d bits: Next after %s is %v, %v", bits, key, p, ok)
		}
	}
}
