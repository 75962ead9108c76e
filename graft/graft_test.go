package graft_test

import (
	"boscage/api"
	"boscage/graft"
	"boscage/hash"
	"boscage/heap"
	"boscage/node"
	"boscage/pair"
	"boscage/plan"
	"boscage/trie"
	"math"
	"slices"
	"strconv"
	"strings"
	"testing"
)

func binds(s ...string) (l []api.Pair) {
	for i := 0; i < len(s); i += 2 {
		l = append(l, api.Pair{Key: s[i], Val: s[i+1]})
	}
	return l
}

// bound returns the sorted bindings below r.
func bound(h []api.Node, r api.Ref) []api.Pair {
	l, _ := heap.Binds(h, r)
	return pair.Make(l...)
}

// missing returns what is below r in h but not below s in g.
func missing(h []api.Node, r api.Ref, g []api.Node, s api.Ref) (l []api.Ref) {
	there := slices.Collect(heap.Refs(g, s))
	for k := range heap.Refs(h, r) {
		if !slices.Contains(there, k) {
			l = append(l, k)
		}
	}
	slices.Sort(l)
	return l
}

// checkPlan checks a result against the definition.
func checkPlan(t *testing.T, h []api.Node, r api.Ref, p plan.Plan) {
	t.Helper()
	g, s, e := plan.Do(h, p)
	if plan.May(p) != api.OK || e != api.OK {
		t.Fatalf("the plan %v is not valid: %v", p, e)
	}
	old := slices.Clone(p.Old)
	slices.Sort(old)
	if !slices.Equal(old, missing(h, r, g, s)) {
		t.Errorf("Old is %v, want %v", old, missing(h, r, g, s))
	}
	below := slices.Collect(heap.Refs(g, s))
	for i, n := range p.New {
		if !slices.Contains(below, api.Ref(len(h)+i+1)) || n.Birth != 0 {
			t.Errorf("the New node %d is not below the root, or born: %v", i, n)
		}
	}
}

// Promises 23.1 to 23.3.
func TestInsertions(t *testing.T) {
	for _, bits := range []int{-1, 0, 1, 3, 5, 8, 64, 70} {
		var h []api.Node
		var root api.Ref
		var want []api.Pair
		for i := range 150 {
			key, val := "k"+strconv.Itoa(i*i%47), strconv.Itoa(i)
			how := i%3 + 1
			was, has := pair.Get(want, key)
			old := was
			if i%2 == 0 {
				old = "other"
			}
			changes := how == graft.Put || how == graft.Add && !has || how == graft.Swap && has && was == old
			g := graft.New(root, how, key, val, old, bits)
			read := 0
			for r := g.Want(); r != 0; r = g.Want() {
				if v, ok := g.Answer(); v != "" || ok {
					t.Error("an answer before the end")
				}
				if _, ok := g.Plan(); ok {
					t.Error("a plan before the end")
				}
				g.Feed(h[r-1])
				read++
			}
			p, ok := g.Plan()
			if v, is := g.Answer(); v != was || is != has || ok != changes || read > hash.Levels(bits)+1 {
				t.Fatalf("%d bits, way %d of %s: %q, %v; Plan %v; %d nodes", bits, how, key, v, is, ok, read)
			}
			if ok {
				checkPlan(t, h, root, p)
				want = pair.Put(want, key, val)
			}
			next, r, e := graft.Run(h, root, how, key, val, old, bits)
			if e != api.OK || !slices.Equal(bound(next, r), want) || !trie.Is(next, r, bits) || !slices.EqualFunc(next[:len(h)], h, node.Same) {
				t.Fatalf("%d bits, way %d of %s: %v, the bindings %v", bits, how, key, e, bound(next, r))
			}
			if !changes && (len(next) != len(h) || r != root) {
				t.Error("what changes nothing changed the heap")
			}
			h, root = next, r
		}
	}
}

// similar returns keys of which each shares a certain number of chunks with the first one: none, one, two or all of three.
func similar() []string {
	first := hash.Of("a", 15)
	l := []string{"a"}
	for shared := range 4 {
		for i := 0; len(l) < 3*shared+4; i++ {
			key := strconv.Itoa(i)
			h := hash.Of(key, 15)
			same := 0
			for same < 3 && hash.Chunk(h, same, 15) == hash.Chunk(first, same, 15) {
				same++
			}
			if same == shared {
				l = append(l, key)
			}
		}
	}
	return l
}

// Promise 23.3: keys whose hashes differ late or not at all.
func TestSimilar(t *testing.T) {
	for _, a := range similar() {
		for _, b := range similar() {
			for _, c := range similar() {
				h, r, _ := trie.Make(15, binds(a, "1", b, "2")...)
				g, s, e := graft.Run(h, r, graft.Put, c, "3", "", 15)
				if e != api.OK || !trie.Is(g, s, 15) || !slices.Equal(bound(g, s), pair.Make(binds(a, "1", b, "2", c, "3")...)) {
					t.Errorf("Put of %s into %s and %s: %v", c, a, b, e)
				}
			}
		}
	}
}

// Promise 23.2: the chapter's examples.
func TestExamples(t *testing.T) {
	h, r, _ := trie.Make(64, binds("a", "1", "b", "2")...)
	if g, s, e := graft.Run(h, r, graft.Put, "c", "3", "", 64); !slices.Equal(bound(g, s), binds("a", "1", "b", "2", "c", "3")) || e != api.OK {
		t.Errorf("Put of c: %v, %v", bound(g, s), e)
	}
	if g, s, e := graft.Run(h, r, graft.Add, "a", "9", "", 64); len(g) != len(h) || s != r || e != api.OK {
		t.Errorf("Add of a: %d nodes, %d, %v", len(g), s, e)
	} else if g[0].Key = "changed"; h[0].Key == "changed" {
		t.Error("Run shares its heap")
	}
	if g, s, e := graft.Run(h, r, graft.Swap, "a", "9", "1", 64); !slices.Equal(bound(g, s), binds("a", "9", "b", "2")) || len(g) <= len(h) || e != api.OK {
		t.Errorf("Swap of a: %v, %v", bound(g, s), e)
	}
	one, s, _ := trie.Make(0, binds("a", "1")...)
	if g, top, e := graft.Run(one, s, graft.Put, "b", "2", "", 0); e != api.OK || !node.Same(g[top-1], node.Bucket(binds("a", "1", "b", "2")...)) {
		t.Errorf("with 0 bits: %v, %d, %v", g, top, e)
	}
	if g, s, e := graft.Run(nil, 0, graft.Put, "a", "1", "", 64); e != api.OK || len(g) != 1 || s != 1 || !node.Same(g[0], node.Leaf("a", "1")) {
		t.Errorf("into the empty trie: %v, %d, %v", g, s, e)
	}
}

// Promise 23.2: errors.
func TestErrors(t *testing.T) {
	h, r, _ := trie.Make(64, binds("a", "1", "b", "2")...)
	long := strings.Repeat("x", 17)
	for _, c := range []struct {
		root     api.Ref
		how      int
		key, val string
		want     api.Errno
	}{{9, 4, long, long, api.ErrArg}, {r, 0, "a", "", api.ErrArg}, {r, math.MinInt, "a", "", api.ErrArg}, {9, 1, long, "", api.ErrLong}, {9, 2, "a", long, api.ErrLong}, {9, 1, "a", "1", api.ErrForm}, {-1, 3, "a", "1", api.ErrForm}} {
		if g, s, e := graft.Run(h, c.root, c.how, c.key, c.val, "", 64); len(g) != 0 || s != 0 || e != c.want {
			t.Errorf("Run with %v: %v, %d, %v", c, g, s, e)
		}
	}
	if _, _, e := graft.Run(h, r, graft.Put, long[1:], long[1:], "", 64); e != api.OK {
		t.Errorf("strings of 16 bytes: %v", e)
	}
	if _, _, e := graft.Run(h, r, graft.Swap, "a", "1", long, 64); e != api.OK {
		t.Errorf("a long old value: %v", e)
	}
	if _, _, e := graft.Run([]api.Node{node.Leaf("a", ""), {}}, 1, graft.Put, "a", "1", "", 64); e != api.ErrForm {
		t.Errorf("a heap that is not valid: %v", e)
	}
}

// Promise 23.1: no insertion, and other nodes than those of a trie.
func TestOtherNodes(t *testing.T) {
	var none *graft.Graft
	none.Feed(node.Leaf("a", "1"))
	v, ok := none.Answer()
	p, is := none.Plan()
	if none.Want() != 0 || v != "" || ok || is || len(p.New)+len(p.Old) != 0 || p.Root != 0 {
		t.Error("a nil insertion")
	}
	full := make([]api.Ref, 32)
	for i := range full {
		full[i] = 7
	}
	for _, bits := range []int{-1, 0, 9, 64} {
		for _, n := range []api.Node{node.Branch(math.MaxUint32, full, 0), node.Branch(math.MaxUint32, nil, 0), node.Inner(7), node.Tree("a", "b", 7, 7, 3), node.Tomb("a", "1"), {}, {Kind: api.NBucket}, {Kind: api.NLeaf, Kids: full}} {
			for how := range 5 {
				g := graft.New(7, how, "a", "1", "", bits)
				read := 0
				for ; g.Want() != 0; read++ {
					g.Feed(n)
				}
				g.Feed(n)
				g.Answer()
				g.Plan()
				if read > hash.Levels(bits)+1 {
					t.Errorf("%d bits, %v: %d nodes received", bits, n, read)
				}
			}
		}
	}
	n := node.Branch(math.MaxUint32, full, 5)
	g := graft.New(7, graft.Put, "a", "1", "", 64)
	g.Feed(n)
	for i := range n.Kids {
		n.Kids[i] = 9
	}
	g.Feed(node.Leaf("b", "1"))
	if p, _ := g.Plan(); slices.Contains(p.New[len(p.New)-1].Kids, 9) {
		t.Error("an insertion keeps what it was passed")
	}
}
