package merge_test

import (
	"boscage/api"
	"boscage/graft"
	"boscage/heap"
	"boscage/merge"
	"boscage/node"
	"boscage/pair"
	"boscage/plan"
	"boscage/pri"
	"boscage/split"
	"boscage/tree"
	"slices"
	"strconv"
	"testing"
)

func binds(s ...string) (l []api.Pair) {
	for i := 0; i < len(s); i += 2 {
		l = append(l, api.Pair{Key: s[i], Val: s[i+1]})
	}
	return l
}

func many(n int) (l []api.Pair) {
	for i := range n {
		l = append(l, api.Pair{Key: "k" + strconv.Itoa(i), Val: strconv.Itoa(i)})
	}
	return l
}

// bound returns the bindings below r.
func bound(h []api.Node, r api.Ref) []api.Pair {
	l, _ := heap.Binds(h, r)
	return l
}

// checkPlan checks a result against the definition.
func checkPlan(t *testing.T, h []api.Node, r api.Ref, p plan.Plan, read int) {
	t.Helper()
	g, s, e := plan.Do(h, p)
	if plan.May(p) != api.OK || e != api.OK || len(p.New) >= read {
		t.Fatalf("the plan %v after %d nodes: %v", p, read, e)
	}
	below := slices.Collect(heap.Refs(g, s))
	old := slices.Clone(p.Old)
	slices.Sort(old)
	var want []api.Ref
	for k := range heap.Refs(h, r) {
		if !slices.Contains(below, k) {
			want = append(want, k)
		}
	}
	slices.Sort(want)
	if !slices.Equal(old, want) {
		t.Errorf("Old is %v, want %v", old, want)
	}
	for i, n := range p.New {
		if !slices.Contains(below, api.Ref(len(h)+i+1)) || n.Birth != 0 {
			t.Errorf("the New node %d is not below the root, or born: %v", i, n)
		}
	}
}

// received returns how many nodes a deletion receives by the chapter's words.
func received(h []api.Node, r api.Ref, key string) int {
	count := 0
	for r != 0 {
		n := h[r-1]
		count++
		if n.Key == key {
			a, b := n.Kids[0], n.Kids[1]
			if a != 0 && b != 0 {
				count += 2
			}
			for a != 0 && b != 0 {
				if pri.Above(h[a-1].Key, h[b-1].Key) {
					a = h[a-1].Kids[1]
				} else {
					b = h[b-1].Kids[0]
				}
				if a != 0 && b != 0 {
					count++
				}
			}
			return count
		}
		side := 0
		if key > n.Key {
			side = 1
		}
		r = n.Kids[side]
	}
	return count
}

// Promises 28.1 to 28.3.
func TestDeletions(t *testing.T) {
	h, root, _ := tree.Make(many(100)...)
	want := pair.Make(many(100)...)
	for i := range 250 {
		key := "k" + strconv.Itoa(i*37%113)
		was, has := pair.Get(want, key)
		m := merge.New(root, key)
		read := 0
		for r := m.Want(); r != 0; r = m.Want() {
			if v, ok := m.Answer(); v != "" || ok {
				t.Error("an answer before the end")
			}
			if _, ok := m.Plan(); ok {
				t.Error("a plan before the end")
			}
			m.Feed(h[r-1])
			read++
		}
		p, ok := m.Plan()
		if v, is := m.Answer(); v != was || is != has || ok != has || read > len(want) || read != received(h, root, key) {
			t.Fatalf("%s: %q, %v; Plan %v; %d nodes", key, v, is, ok, read)
		}
		if ok {
			checkPlan(t, h, root, p, read)
			want = pair.Drop(want, key)
		}
		next, r, e := merge.Run(h, root, key)
		if e != api.OK || !slices.Equal(bound(next, r), want) || !tree.Is(next, r) || !slices.EqualFunc(next[:len(h)], h, node.Same) {
			t.Fatalf("%s: %v, the bindings %v", key, e, bound(next, r))
		}
		if !has && (len(next) != len(h) || r != root) {
			t.Error("what changes nothing changed the heap")
		}
		h, root = next, r
	}
}

// Promise 28.3.
func TestInverse(t *testing.T) {
	for n := range 30 {
		h, r, _ := tree.Make(many(n)...)
		for _, key := range []string{"", "k", "k1x", "k2x", "z"} {
			g, s, _ := split.Run(h, r, graft.Put, key, "1", "")
			back, top, e := merge.Run(g, s, key)
			if e != api.OK || !heap.Same(back, top, h, r) {
				t.Errorf("%d bindings and %q: %v, %d, %v", n, key, back, top, e)
			}
		}
	}
}

// Promise 28.2: the chapter's examples and errors.
func TestExamples(t *testing.T) {
	five := binds("a", "1", "c", "2", "e", "3", "g", "4", "i", "5")
	h, r, _ := tree.Make(five...)
	for _, p := range five {
		g, s, e := merge.Run(h, r, p.Key)
		if !slices.Equal(bound(g, s), pair.Drop(five, p.Key)) || !tree.Is(g, s) || e != api.OK {
			t.Errorf("deleting %s: %v, %v", p.Key, bound(g, s), e)
		}
	}
	if g, s, e := merge.Run(h, r, "d"); len(g) != len(h) || s != r || e != api.OK {
		t.Errorf("deleting d: %d nodes, %d, %v", len(g), s, e)
	} else if g[0].Key = "changed"; h[0].Key == "changed" {
		t.Error("Run shares its heap")
	}
	one, s, _ := tree.Make(binds("a", "1")...)
	if g, top, e := merge.Run(one, s, "a"); len(g) != 1 || top != 0 || e != api.OK {
		t.Errorf("deleting the only binding: %v, %d, %v", g, top, e)
	}
	if g, s, e := merge.Run(nil, 0, "a"); len(g) != 0 || s != 0 || e != api.OK {
		t.Errorf("deleting from the empty tree: %v, %d, %v", g, s, e)
	}
	for _, root := range []api.Ref{9, -1} {
		if g, s, e := merge.Run(h, root, "a"); len(g) != 0 || s != 0 || e != api.ErrForm {
			t.Errorf("the root %d: %v, %d, %v", root, g, s, e)
		}
	}
}

// Promise 28.1: no deletion, and other nodes than those of a tree.
func TestOtherNodes(t *testing.T) {
	var none *merge.Merge
	none.Feed(node.Tree("a", "1", 0, 0, 1))
	v, ok := none.Answer()
	p, is := none.Plan()
	if none.Want() != 0 || v != "" || ok || is || len(p.New)+len(p.Old) != 0 || p.Root != 0 {
		t.Error("a nil deletion")
	}
	ways := [][]api.Node{{}, {node.Tree("b", "", 3, 4, 2)}, {node.Tree("a", "", 3, 4, 2)}, {node.Tree("a", "", 3, 4, 2), node.Tree("x", "", 3, 4, 2)}, {node.Tree("a", "", 3, 4, 2), node.Tree("x", "", 3, 4, 2), node.Tree("x", "", 3, 4, 2)}}
	for i, before := range ways {
		for _, n := range []api.Node{{}, node.Leaf("a", ""), node.Inner(4), {Kind: api.NTree}, {Kind: api.NTree, Kids: []api.Ref{1, 2, 3}}} {
			m := merge.New(7, "a")
			for _, b := range before {
				m.Feed(b)
			}
			if m.Want() == 0 {
				t.Fatalf("way %d is at its end", i)
			}
			m.Feed(n)
			if _, ok := m.Plan(); m.Want() != 0 || ok {
				t.Errorf("%v does not end the deletion of way %d", n, i)
			}
			m.Feed(node.Tree("a", "", 3, 4, 2))
			m.Answer()
		}
	}
}
