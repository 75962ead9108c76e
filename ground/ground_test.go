package ground_test

import (
	"boscage/api"
	"boscage/call"
	"boscage/ground"
	"boscage/node"
	"boscage/tree"
	"boscage/trie"
	"boscage/word"
	"math"
	"slices"
	"strconv"
	"testing"
)

func binds(s ...string) (l []api.Pair) {
	for i := 0; i < len(s); i += 2 {
		l = append(l, api.Pair{Key: s[i], Val: s[i+1]})
	}
	return l
}

// example makes the chapter's ground.
func example(t *testing.T) *ground.Ground {
	t.Helper()
	g, e := ground.New(api.Config{Kind: api.Ctrie, Slots: 9, Threads: 2, Handles: 2, Bits: 4})
	if e != api.OK {
		t.Fatal(e)
	}
	return g
}

// Promise 34.1.
func TestNew(t *testing.T) {
	for c, want := range map[api.Config]api.Errno{{}: api.ErrKind, {Kind: api.Hamt}: api.ErrArg, {Kind: api.Ctrie, Slots: 1, Threads: 1, Bits: 1}: api.ErrArg, {Kind: 4, Slots: -1}: api.ErrKind} {
		if g, e := ground.New(c); g != nil || e != want {
			t.Errorf("New(%v) = %v, %v", c, g, e)
		}
	}
	g := example(t)
	for i, want := range []api.Word{{Ref: 1026}, {Tag: 1}, {}, {}, {Tag: -1, Id: -2}, {Tag: -1, Id: -1}, {}} {
		if w := g.M.Peek(i); w != want {
			t.Errorf("cell %d is %v", i, w)
		}
	}
	main, ok := g.M.Look(1025)
	root, is := g.M.Look(1026)
	if !ok || !is || !node.Same(main, node.Branch(0, nil, 0)) || !node.Same(root, node.Inner(1025)) || g.M.Used() != 2 || g.Steps() != 0 || len(g.X.All()) != 0 || g.X.Push(1) != api.OK || g.X.Push(2) != api.ErrArg {
		t.Errorf("a new Ctrie: %v, %v, %d used, %d steps", root, main, g.M.Used(), g.Steps())
	}
	for _, kind := range []int{api.Hamt, api.Treap} {
		g, e := ground.New(api.Config{Kind: kind, Threads: 64, Handles: 16})
		l, stale := g.Reach()
		if e != api.OK || g.M.Used() != 0 || g.Steps() != 0 || len(g.Roots())+len(l)+stale != 0 || g.M.Peek(0) != (api.Word{}) || g.M.Peek(81) != (api.Word{Tag: -1, Id: -1}) {
			t.Errorf("a new map of kind %d: %v, %d used", kind, e, g.M.Used())
		}
	}
}

// Promises 34.1 and 34.2: the chapter's examples.
func TestExample(t *testing.T) {
	g := example(t)
	check := func(want []api.Ref, wantStale int) {
		t.Helper()
		before := g.Steps()
		if l, stale := g.Reach(); !slices.Equal(l, want) || stale != wantStale {
			t.Errorf("Reach = %v, %d", l, stale)
		}
		if l := g.Roots(); !slices.Equal(l, []api.Ref{1026}) {
			t.Errorf("Roots = %v", l)
		}
		if g.Steps() != before {
			t.Error("looking is an access")
		}
	}
	check([]api.Ref{1025, 1026}, 0)
	leaf, _ := g.M.Take(node.Leaf("a", "1"))
	top, _ := g.M.Take(node.Branch(1, []api.Ref{leaf}, 0))
	if ok, _ := g.M.Swing(1026, 1025, top, 0, g.M.Peek(0)); !ok || leaf != 1027 || top != 1028 {
		t.Fatal("the allocations")
	}
	check([]api.Ref{1026, 1027, 1028}, 0)
	if l, ok := g.Binds(1026); !slices.Equal(l, binds("a", "1")) || !ok {
		t.Errorf("Binds = %v, %v", l, ok)
	}
	g.M.Free(leaf)
	check([]api.Ref{1026, 1028}, 1)
	if l, ok := g.Binds(1026); len(l) != 0 || ok {
		t.Errorf("Binds = %v, %v", l, ok)
	}
	if g.Steps() != 4 {
		t.Errorf("%d steps", g.Steps())
	}
	g.X.Push(0)
	g.X.Grab(1)
	if g.Steps() != 6 {
		t.Errorf("%d steps with those of the lists", g.Steps())
	}
	if l, ok := g.Binds(0); len(l) != 0 || !ok {
		t.Errorf("Binds of 0 = %v, %v", l, ok)
	}
	for _, r := range []api.Ref{-1, 5, 77, math.MaxInt} {
		if l, ok := g.Binds(r); len(l) != 0 || ok {
			t.Errorf("Binds of %d = %v, %v", r, l, ok)
		}
	}
}

// Promise 34.2: the roots of handles.
func TestRoots(t *testing.T) {
	g, _ := ground.New(api.Config{Kind: api.Hamt, Slots: 9, Threads: 1, Handles: 5})
	var refs []api.Ref
	for i := range 4 {
		r, _ := g.M.Take(node.Leaf(strconv.Itoa(i), ""))
		refs = append(refs, r)
	}
	put := func(i, kind int, r api.Ref) {
		w, _ := word.Handle(kind, i, r, 3)
		g.M.Store(call.Handle(g.C, i), w)
	}
	g.M.Store(0, api.Word{Ref: refs[2], Tag: 1})
	put(0, word.Held, refs[1])
	put(1, word.Kept, 0)
	put(2, word.Held, 0)
	put(3, word.Held, refs[2])
	put(4, word.Held, refs[1])
	if l := g.Roots(); !slices.Equal(l, []api.Ref{refs[2], refs[1]}) {
		t.Errorf("Roots = %v", l)
	}
	put(4, word.Held, refs[0])
	put(3, word.Held, 5000)
	g.M.Store(0, api.Word{})
	if l := g.Roots(); !slices.Equal(l, []api.Ref{refs[1], 5000, refs[0]}) {
		t.Errorf("Roots = %v", l)
	}
	if l, stale := g.Reach(); !slices.Equal(l, refs[:2]) || stale != 1 {
		t.Errorf("Reach = %v, %d", l, stale)
	}
	g.M.Store(call.Handle(g.C, 0), api.Word{Ref: 9, Tag: -1})
	if l := g.Roots(); !slices.Equal(l, []api.Ref{5000, refs[0]}) {
		t.Errorf("Roots with a word of no form = %v", l)
	}
}

// Promises 34.2 and 34.3.
func TestStructures(t *testing.T) {
	var l []api.Pair
	for i := range 40 {
		l = append(l, api.Pair{Key: "k" + strconv.Itoa(10+i), Val: strconv.Itoa(i)})
	}
	tries, s, _ := trie.Make(6, l...)
	trees, r, _ := tree.Make(l...)
	for _, c := range []struct {
		h    []api.Node
		root api.Ref
	}{{tries, s}, {trees, r}} {
		g, _ := ground.New(api.Config{Kind: api.Hamt, Slots: 900, Threads: 1})
		for _, n := range c.h {
			for i, k := range n.Kids {
				if k != 0 {
					n.Kids[i] = 1024 + k
				}
			}
			g.M.Take(n)
		}
		g.M.Take(node.Leaf("q", ""))
		g.M.Store(0, api.Word{Ref: c.root + 1024})
		got, ok := g.Binds(c.root + 1024)
		reach, stale := g.Reach()
		if !slices.Equal(got, l) || !ok || len(reach) != len(c.h) || stale != 0 || !slices.IsSorted(reach) {
			t.Errorf("Binds = %v, %v; Reach %d of %d, %d", got, ok, len(reach), len(c.h), stale)
		}
	}
}

// Promise 34.2: bindings in ascending order of references, and cycles.
func TestBinds(t *testing.T) {
	g, _ := ground.New(api.Config{Kind: api.Hamt, Slots: 9, Threads: 1})
	g.M.Take(node.Leaf("a", "1"))
	g.M.Take(node.Leaf("a", "2"))
	g.M.Take(node.Branch(3, []api.Ref{1026, 1025}, 0))
	g.M.Take(node.Inner(1028))
	g.M.Take(node.Branch(7, []api.Ref{1028, 77, 77}, 0))
	if l, ok := g.Binds(1027); !slices.Equal(l, binds("a", "2")) || !ok {
		t.Errorf("Binds = %v, %v", l, ok)
	}
	if l, ok := g.Binds(1028); len(l) != 0 || !ok {
		t.Errorf("Binds of a cycle = %v, %v", l, ok)
	}
	g.M.Store(0, api.Word{Ref: 1029})
	if l, stale := g.Reach(); !slices.Equal(l, []api.Ref{1028, 1029}) || stale != 1 {
		t.Errorf("Reach = %v, %d", l, stale)
	}
}

// Promises 34.1 and 34.2: a ground that New did not make.
func TestInvalid(t *testing.T) {
	for _, g := range []*ground.Ground{nil, {}, {C: example(t).C}} {
		reach, stale := g.Reach()
		l, ok := g.Binds(0)
		m, is := g.Binds(1026)
		if len(g.Roots())+len(reach)+stale+len(l)+len(m)+g.Steps() != 0 || ok || is {
			t.Error("no ground has something")
		}
	}
}
