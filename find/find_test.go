package find_test

import (
	"boscage/api"
	"boscage/find"
	"boscage/hash"
	"boscage/node"
	"boscage/trie"
	"strconv"
	"testing"
)

func binds(s ...string) (l []api.Pair) {
	for i := 0; i < len(s); i += 2 {
		l = append(l, api.Pair{Key: s[i], Val: s[i+1]})
	}
	return l
}

// example makes the chapter's heap.
func example() []api.Node {
	return []api.Node{node.Bucket(binds("a", "1", "b", "2")...), node.Inner(1), node.Tomb("c", "3"), node.Branch(1, []api.Ref{2}, 2)}
}

// Promise 21.1.
func TestFeed(t *testing.T) {
	f := find.New(3, "c", 8)
	if v, ok := f.Answer(); f.Want() != 3 || v != "" || ok {
		t.Errorf("at first: %d, %q, %v", f.Want(), v, ok)
	}
	f.Feed(node.Tomb("c", "3"))
	if v, ok := f.Answer(); f.Want() != 0 || v != "3" || !ok {
		t.Errorf("after the tomb: %d, %q, %v", f.Want(), v, ok)
	}
	f.Feed(node.Leaf("c", "4"))
	f.Feed(node.Inner(9))
	if v, ok := f.Answer(); f.Want() != 0 || v != "3" || !ok {
		t.Errorf("after the end: %d, %q, %v", f.Want(), v, ok)
	}
	if none := find.New(0, "c", 8); none.Want() != 0 {
		t.Error("a lookup from 0 requests something")
	} else if none.Feed(node.Leaf("c", "4")); none.Want() != 0 {
		t.Error("Feed has an effect at the end")
	} else if v, ok := none.Answer(); v != "" || ok {
		t.Errorf("a lookup from 0: %q, %v", v, ok)
	}
	var none *find.Find
	none.Feed(node.Leaf("c", "4"))
	if v, ok := none.Answer(); none.Want() != 0 || v != "" || ok {
		t.Error("a nil lookup")
	}
}

// Promise 21.1: how each kind continues.
func TestKinds(t *testing.T) {
	chunk := hash.Chunk(hash.Of("c", 64), 0, 64)
	for _, c := range []struct {
		n    api.Node
		want api.Ref
		val  string
		has  bool
	}{
		{node.Leaf("c", "1"), 0, "1", true}, {node.Leaf("d", "1"), 0, "", false}, {node.Tomb("d", "1"), 0, "", false},
		{node.Bucket(binds("c", "2", "d", "3")...), 0, "2", true}, {node.Bucket(binds("b", "2", "d", "3")...), 0, "", false},
		{node.Inner(77), 77, "", false}, {node.Inner(0), 0, "", false},
		{node.Branch(1<<chunk, []api.Ref{78}, 1), 78, "", false}, {node.Branch(1<<(chunk^1), []api.Ref{78}, 1), 0, "", false}, {node.Branch(1<<chunk, nil, 1), 0, "", false},
		{node.Tree("c", "1", 5, 6, 3), 0, "", false}, {api.Node{}, 0, "", false}, {api.Node{Kind: 9, Key: "c", Main: 4}, 0, "", false},
	} {
		f := find.New(5, "c", 64)
		f.Feed(c.n)
		if v, ok := f.Answer(); f.Want() != c.want || v != c.val || ok != c.has {
			t.Errorf("%v: requests %d, %q, %v", c.n, f.Want(), v, ok)
		}
	}
	deep := find.New(5, "c", 64)
	deep.Feed(node.Branch(1<<chunk, []api.Ref{6}, 1))
	deep.Feed(node.Inner(7))
	next := hash.Chunk(hash.Of("c", 64), 1, 64)
	deep.Feed(node.Branch(1<<next, []api.Ref{8}, 1))
	if deep.Want() != 8 {
		t.Errorf("at level 1 it requests %d", deep.Want())
	}
}

// Promise 21.2.
func TestRun(t *testing.T) {
	for _, c := range []struct {
		root api.Ref
		key  string
		bits int
		val  string
		has  bool
		n    int
	}{{2, "b", 64, "2", true, 2}, {2, "c", 64, "", false, 2}, {4, "a", 0, "1", true, 3}, {5, "a", 0, "", false, 0}, {-1, "a", 0, "", false, 0}, {0, "a", 0, "", false, 0}, {3, "c", 64, "3", true, 1}} {
		if v, ok, n := find.Run(example(), c.root, c.key, c.bits); v != c.val || ok != c.has || n != c.n {
			t.Errorf("from %d, %q: %q, %v, %d", c.root, c.key, v, ok, n)
		}
	}
	if v, ok, n := find.Run([]api.Node{node.Leaf("a", "1"), {}}, 1, "a", 8); v != "" || ok || n != 0 {
		t.Errorf("in a heap that is not valid: %q, %v, %d", v, ok, n)
	}
}

// Promise 21.3.
func TestTries(t *testing.T) {
	for _, bits := range []int{-1, 0, 1, 4, 9, 64, 99} {
		var l []api.Pair
		for i := range 60 {
			l = append(l, api.Pair{Key: strconv.Itoa(i), Val: strconv.Itoa(i * i)})
		}
		h, r, _ := trie.Make(bits, l...)
		for i := range 120 {
			v, ok, n := find.Run(h, r, strconv.Itoa(i), bits)
			if ok != (i < 60) || ok && v != strconv.Itoa(i*i) || !ok && v != "" || n > hash.Levels(bits)+1 {
				t.Errorf("%d with %d bits: %q, %v, %d nodes", i, bits, v, ok, n)
			}
		}
	}
	h, r, _ := trie.Make(64, binds("a", "1")...)
	if v, ok, n := find.Run(h, r, "a", 64); v != "1" || !ok || n != 1 {
		t.Error("the chapter's example")
	}
}
