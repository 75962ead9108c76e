package prune_test

import (
	"boscage/api"
	"boscage/graft"
	"boscage/hash"
	"boscage/heap"
	"boscage/node"
	"boscage/pair"
	"boscage/plan"
	"boscage/prune"
	"boscage/trie"
	"math"
	"slices"
	"strconv"
	"testing"
)

func binds(s ...string) (l []api.Pair) {
	for i := 0; i < len(s); i += 2 {
		l = append(l, api.Pair{Key: s[i], Val: s[i+1]})
	}
	return l
}

// bound returns the sorted bindings below r.
func bound(h []api.Node, r api.Ref) []api.Pair {
	l, _ := heap.Binds(h, r)
	return pair.Make(l...)
}

// checkPlan checks a result against the definition.
func checkPlan(t *testing.T, h []api.Node, r api.Ref, p plan.Plan) {
	t.Helper()
	g, s, e := plan.Do(h, p)
	if plan.May(p) != api.OK || e != api.OK {
		t.Fatalf("the plan %v is not valid: %v", p, e)
	}
	below := slices.Collect(heap.Refs(g, s))
	old := slices.Clone(p.Old)
	slices.Sort(old)
	var want []api.Ref
	for k := range heap.Refs(h, r) {
		if !slices.Contains(below, k) {
			want = append(want, k)
		}
	}
	slices.Sort(want)
	if !slices.Equal(old, want) {
		t.Errorf("Old is %v, want %v", old, want)
	}
	for i, n := range p.New {
		if !slices.Contains(below, api.Ref(len(h)+i+1)) || n.Birth != 0 {
			t.Errorf("the New node %d is not below the root, or born: %v", i, n)
		}
	}
}

// drive performs a deletion by hand; it returns how many nodes it received.
func drive(t *testing.T, h []api.Node, root api.Ref, key string, bits int) (*prune.Prune, int) {
	t.Helper()
	p := prune.New(root, key, bits)
	read := 0
	for r := p.Want(); r != 0; r = p.Want() {
		if v, ok := p.Answer(); v != "" || ok {
			t.Error("an answer before the end")
		}
		if _, ok := p.Plan(); ok {
			t.Error("a plan before the end")
		}
		p.Feed(h[r-1])
		read++
	}
	return p, read
}

// Promises 24.1 to 24.3.
func TestDeletions(t *testing.T) {
	for _, bits := range []int{-1, 0, 1, 3, 5, 8, 10, 64, 70} {
		var l []api.Pair
		for i := range 60 {
			l = append(l, api.Pair{Key: "k" + strconv.Itoa(i), Val: strconv.Itoa(i)})
		}
		h, root, _ := trie.Make(bits, l...)
		want := pair.Make(l...)
		for i := range 120 {
			key := "k" + strconv.Itoa(i*37%67)
			was, has := pair.Get(want, key)
			p, read := drive(t, h, root, key, bits)
			out, ok := p.Plan()
			if v, is := p.Answer(); v != was || is != has || ok != has || read > hash.Levels(bits)+2 {
				t.Fatalf("%d bits, %s: %q, %v; Plan %v; %d nodes", bits, key, v, is, ok, read)
			}
			if ok {
				checkPlan(t, h, root, out)
				want = pair.Drop(want, key)
			}
			next, r, e := prune.Run(h, root, key, bits)
			if e != api.OK || !slices.Equal(bound(next, r), want) || !trie.Is(next, r, bits) || !slices.EqualFunc(next[:len(h)], h, node.Same) {
				t.Fatalf("%d bits, %s: %v, the bindings %v", bits, key, e, bound(next, r))
			}
			if !has && (len(next) != len(h) || r != root) {
				t.Error("what changes nothing changed the heap")
			}
			h, root = next, r
		}
	}
}

// similar returns keys of which each shares a certain number of chunks with the first one: none, one, two or all of three.
func similar() []string {
	first := hash.Of("a", 15)
	l := []string{"a"}
	for shared := range 4 {
		for i := 0; len(l) < 2*shared+3; i++ {
			key := strconv.Itoa(i)
			h := hash.Of(key, 15)
			same := 0
			for same < 3 && hash.Chunk(h, same, 15) == hash.Chunk(first, same, 15) {
				same++
			}
			if same == shared {
				l = append(l, key)
			}
		}
	}
	return l
}

// Promise 24.3: keys whose hashes differ late or not at all.
func TestSimilar(t *testing.T) {
	l := similar()
	for chosen := range 1 << len(l) {
		var part []api.Pair
		for i, key := range l {
			if chosen>>i&1 == 1 {
				part = append(part, api.Pair{Key: key, Val: "v"})
			}
		}
		h, r, _ := trie.Make(15, part...)
		for _, p := range part {
			m, _ := drive(t, h, r, p.Key, 15)
			if out, ok := m.Plan(); ok {
				checkPlan(t, h, r, out)
			}
			g, s, e := prune.Run(h, r, p.Key, 15)
			if e != api.OK || !trie.Is(g, s, 15) || !slices.Equal(bound(g, s), pair.Drop(part, p.Key)) {
				t.Errorf("deleting %s from %v: %v", p.Key, part, e)
			}
		}
	}
}

// Promise 24.3.
func TestInverse(t *testing.T) {
	for _, bits := range []int{0, 1, 4, 7, 64} {
		var l []api.Pair
		for i := range 25 {
			h, r, _ := trie.Make(bits, l...)
			key := "new" + strconv.Itoa(i)
			g, s, _ := graft.Run(h, r, graft.Put, key, "1", "", bits)
			back, top, e := prune.Run(g, s, key, bits)
			if e != api.OK || !heap.Same(back, top, h, r) {
				t.Errorf("%d bits, %d bindings: %v, %d, %v", bits, len(l), back, top, e)
			}
			l = append(l, api.Pair{Key: strconv.Itoa(i)})
		}
	}
}

// Promise 24.2: the chapter's examples and errors.
func TestExamples(t *testing.T) {
	h, r, _ := trie.Make(64, binds("a", "1", "b", "2", "c", "3")...)
	if g, s, e := prune.Run(h, r, "b", 64); !slices.Equal(bound(g, s), binds("a", "1", "c", "3")) || e != api.OK {
		t.Errorf("deleting b: %v, %v", bound(g, s), e)
	}
	if g, s, e := prune.Run(h, r, "x", 64); len(g) != len(h) || s != r || e != api.OK {
		t.Errorf("deleting x: %d nodes, %d, %v", len(g), s, e)
	} else if g[0].Key = "changed"; h[0].Key == "changed" {
		t.Error("Run shares its heap")
	}
	two, s, _ := trie.Make(64, binds("a", "1", "b", "2")...)
	if g, top, e := prune.Run(two, s, "a", 64); len(g) != len(two) || e != api.OK || !node.Same(g[top-1], node.Leaf("b", "2")) {
		t.Errorf("deleting one of two: %v, %d, %v", g, top, e)
	}
	low, s, _ := trie.Make(0, binds("a", "1", "b", "2")...)
	if g, top, e := prune.Run(low, s, "a", 0); len(g) != 2 || e != api.OK || !node.Same(g[top-1], node.Leaf("b", "2")) {
		t.Errorf("with 0 bits: %v, %d, %v", g, top, e)
	}
	for _, root := range []api.Ref{99, -1} {
		if g, s, e := prune.Run(h, root, "a", 64); len(g) != 0 || s != 0 || e != api.ErrForm {
			t.Errorf("the root %d: %v, %d, %v", root, g, s, e)
		}
	}
	one, s, _ := trie.Make(64, binds("a", "1")...)
	p, _ := drive(t, one, s, "a", 64)
	if out, ok := p.Plan(); !ok || out.Root != 0 || len(out.New) != 0 || !slices.Equal(out.Old, []api.Ref{1}) {
		t.Errorf("deleting the only binding: %v, %v", out, ok)
	}
	if g, s, e := prune.Run(nil, 0, "a", 64); len(g) != 0 || s != 0 || e != api.OK {
		t.Errorf("deleting from the empty trie: %v, %d, %v", g, s, e)
	}
}

// Promise 24.1: the only other child of the last branch is received too.
func TestBeside(t *testing.T) {
	h, r, _ := trie.Make(64, binds("a", "1", "b", "2")...)
	if _, read := drive(t, h, r, "a", 64); read != 3 {
		t.Errorf("a root with two leaves: %d nodes", read)
	}
	one, top, _ := trie.Make(64, binds("a", "1")...)
	if _, read := drive(t, one, top, "a", 64); read != 1 {
		t.Errorf("a leaf alone: %d nodes", read)
	}
	more, s, _ := trie.Make(64, binds("a", "1", "b", "2", "c", "3")...)
	if _, read := drive(t, more, s, "a", 64); read != 2 {
		t.Errorf("a root with three leaves: %d nodes", read)
	}
}

// Promise 24.1: no deletion, and other nodes than those of a trie.
func TestOtherNodes(t *testing.T) {
	var none *prune.Prune
	none.Feed(node.Leaf("a", "1"))
	v, ok := none.Answer()
	out, is := none.Plan()
	if none.Want() != 0 || v != "" || ok || is || len(out.New)+len(out.Old) != 0 || out.Root != 0 {
		t.Error("a nil deletion")
	}
	full := make([]api.Ref, 32)
	for i := range full {
		full[i] = 7
	}
	for _, bits := range []int{-1, 0, 9, 64} {
		for _, n := range []api.Node{node.Branch(math.MaxUint32, full, 0), node.Branch(3, []api.Ref{7, 7}, 0), node.Branch(math.MaxUint32, nil, 0), node.Inner(7), node.Tree("a", "b", 7, 7, 3), node.Tomb("a", "1"), {}, {Kind: api.NBucket}, {Kind: api.NLeaf, Key: "a", Kids: full}} {
			p := prune.New(7, "a", bits)
			read := 0
			for ; p.Want() != 0; read++ {
				p.Feed(n)
			}
			p.Feed(n)
			p.Answer()
			p.Plan()
			if read > hash.Levels(bits)+2 {
				t.Errorf("%d bits, %v: %d nodes received", bits, n, read)
			}
		}
	}
}
