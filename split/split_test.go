package split_test

import (
	"boscage/api"
	"boscage/graft"
	"boscage/heap"
	"boscage/node"
	"boscage/pair"
	"boscage/plan"
	"boscage/split"
	"boscage/tree"
	"math"
	"slices"
	"strconv"
	"strings"
	"testing"
)

func binds(s ...string) (l []api.Pair) {
	for i := 0; i < len(s); i += 2 {
		l = append(l, api.Pair{Key: s[i], Val: s[i+1]})
	}
	return l
}

// bound returns the bindings below r.
func bound(h []api.Node, r api.Ref) []api.Pair {
	l, _ := heap.Binds(h, r)
	return l
}

// checkPlan checks a result against the definition.
func checkPlan(t *testing.T, h []api.Node, r api.Ref, p plan.Plan, read int) {
	t.Helper()
	g, s, e := plan.Do(h, p)
	if plan.May(p) != api.OK || e != api.OK || len(p.New) > read+1 {
		t.Fatalf("the plan %v after %d nodes: %v", p, read, e)
	}
	below := slices.Collect(heap.Refs(g, s))
	old := slices.Clone(p.Old)
	slices.Sort(old)
	var want []api.Ref
	for k := range heap.Refs(h, r) {
		if !slices.Contains(below, k) {
			want = append(want, k)
		}
	}
	slices.Sort(want)
	if !slices.Equal(old, want) {
		t.Errorf("Old is %v, want %v", old, want)
	}
	for i, n := range p.New {
		if !slices.Contains(below, api.Ref(len(h)+i+1)) || n.Birth != 0 {
			t.Errorf("the New node %d is not below the root, or born: %v", i, n)
		}
	}
}

// Promises 27.1 to 27.3.
func TestInsertions(t *testing.T) {
	var h []api.Node
	var root api.Ref
	var want []api.Pair
	for i := range 300 {
		key, val := "k"+strconv.Itoa(i*i%97), strconv.Itoa(i)
		how := i%3 + 1
		was, has := pair.Get(want, key)
		old := was
		if i%2 == 0 {
			old = "other"
		}
		changes := how == graft.Put || how == graft.Add && !has || how == graft.Swap && has && was == old
		depth, _ := heap.Depth(h, root)
		s := split.New(root, how, key, val, old)
		read := 0
		for r := s.Want(); r != 0; r = s.Want() {
			if v, ok := s.Answer(); v != "" || ok {
				t.Error("an answer before the end")
			}
			if _, ok := s.Plan(); ok {
				t.Error("a plan before the end")
			}
			s.Feed(h[r-1])
			read++
		}
		p, ok := s.Plan()
		if v, is := s.Answer(); v != was || is != has || ok != changes || read > depth {
			t.Fatalf("way %d of %s: %q, %v; Plan %v; %d nodes", how, key, v, is, ok, read)
		}
		if ok {
			checkPlan(t, h, root, p, read)
			want = pair.Put(want, key, val)
		}
		next, r, e := split.Run(h, root, how, key, val, old)
		if e != api.OK || !slices.Equal(bound(next, r), want) || !tree.Is(next, r) || !slices.EqualFunc(next[:len(h)], h, node.Same) {
			t.Fatalf("way %d of %s: %v, the bindings %v", how, key, e, bound(next, r))
		}
		if !changes && (len(next) != len(h) || r != root) {
			t.Error("what changes nothing changed the heap")
		}
		h, root = next, r
	}
}

// Promise 27.2: the chapter's examples.
func TestExamples(t *testing.T) {
	h, r, _ := tree.Make(binds("a", "v", "c", "v", "e", "v", "g", "v")...)
	for _, c := range []struct {
		how           int
		key, val, old string
		want          []api.Pair
	}{
		{graft.Put, "d", "w", "", binds("a", "v", "c", "v", "d", "w", "e", "v", "g", "v")},
		{graft.Add, "c", "w", "", binds("a", "v", "c", "v", "e", "v", "g", "v")},
		{graft.Swap, "c", "w", "v", binds("a", "v", "c", "w", "e", "v", "g", "v")},
	} {
		g, s, e := split.Run(h, r, c.how, c.key, c.val, c.old)
		if !slices.Equal(bound(g, s), c.want) || !tree.Is(g, s) || e != api.OK {
			t.Errorf("way %d of %s: %v, %v", c.how, c.key, bound(g, s), e)
		}
		if c.how == graft.Add {
			if len(g) != len(h) || s != r {
				t.Error("Add of c changes something")
			}
			if g[0].Key = "changed"; h[0].Key == "changed" {
				t.Error("Run shares its heap")
			}
		}
	}
	if g, s, e := split.Run(nil, 0, graft.Put, "a", "1", ""); e != api.OK || len(g) != 1 || s != 1 || !node.Same(g[0], node.Tree("a", "1", 0, 0, 1)) {
		t.Errorf("into the empty tree: %v, %d, %v", g, s, e)
	}
}

// Promise 27.2: errors.
func TestErrors(t *testing.T) {
	h, r, _ := tree.Make(binds("a", "1", "b", "2")...)
	long := strings.Repeat("x", 17)
	for _, c := range []struct {
		root     api.Ref
		how      int
		key, val string
		want     api.Errno
	}{{9, 0, long, long, api.ErrArg}, {r, 4, "a", "", api.ErrArg}, {r, math.MinInt, "a", "", api.ErrArg}, {9, 1, long, "", api.ErrLong}, {9, 2, "a", long, api.ErrLong}, {9, 1, "a", "1", api.ErrForm}, {-1, 3, "a", "1", api.ErrForm}} {
		if g, s, e := split.Run(h, c.root, c.how, c.key, c.val, ""); len(g) != 0 || s != 0 || e != c.want {
			t.Errorf("Run with %v: %v, %d, %v", c, g, s, e)
		}
	}
	if _, _, e := split.Run(h, r, graft.Put, long[1:], long[1:], ""); e != api.OK {
		t.Errorf("strings of 16 bytes: %v", e)
	}
	if _, _, e := split.Run(h, r, graft.Swap, "a", "1", long); e != api.OK {
		t.Errorf("a long old value: %v", e)
	}
	if _, _, e := split.Run([]api.Node{node.Leaf("a", "")}, 1, graft.Put, "a", "1", ""); e != api.ErrForm {
		t.Errorf("a trie: %v", e)
	}
}

// Promise 27.1: no insertion, and other nodes than those of a tree.
func TestOtherNodes(t *testing.T) {
	var none *split.Split
	none.Feed(node.Tree("a", "1", 0, 0, 1))
	v, ok := none.Answer()
	p, is := none.Plan()
	if none.Want() != 0 || v != "" || ok || is || len(p.New)+len(p.Old) != 0 || p.Root != 0 {
		t.Error("a nil insertion")
	}
	for _, n := range []api.Node{{}, node.Leaf("a", ""), node.Inner(4), {Kind: api.NTree}, {Kind: api.NTree, Kids: []api.Ref{1, 2, 3}}} {
		for how := range 5 {
			for _, first := range []api.Node{{}, node.Tree("b", "1", 3, 4, -7), node.Tree("", "1", 3, 4, 1)} {
				s := split.New(7, how, "a", "1", "")
				s.Feed(first)
				s.Feed(n)
				if s.Want() != 0 {
					t.Errorf("%v does not end an insertion", n)
				}
				s.Feed(first)
				s.Answer()
				s.Plan()
			}
		}
	}
	n := node.Tree("b", "1", 0, 3, 2)
	s := split.New(7, graft.Put, "a", "1", "")
	s.Feed(n)
	n.Kids[1] = 99
	if p, _ := s.Plan(); slices.ContainsFunc(p.New, func(n api.Node) bool { return slices.Contains(n.Kids, 99) }) {
		t.Error("an insertion keeps what it was passed")
	}
}
