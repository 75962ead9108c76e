package inner_test

import (
	"boscage/api"
	"boscage/branch"
	"boscage/hash"
	"boscage/heap"
	"boscage/inner"
	"boscage/node"
	"boscage/pair"
	"boscage/plan"
	"boscage/seek"
	"math"
	"slices"
	"strconv"
	"testing"
)

func binds(s ...string) (l []api.Pair) {
	for i := 0; i < len(s); i += 2 {
		l = append(l, api.Pair{Key: s[i], Val: s[i+1]})
	}
	return l
}

func chunk(key string, level, bits int) int { return hash.Chunk(hash.Of(key, bits), level, bits) }

// fan makes a branch, born in 4, with a Size and the children at the chunks of the keys at a level of 64 bits.
func fan(level int, kids map[string]api.Ref) api.Node {
	b := node.Branch(0, nil, 9)
	for key, r := range kids {
		b = branch.With(b, chunk(key, level, 64), r)
	}
	b.Birth = 4
	return b
}

// same compares a plan with what it should be.
func same(p plan.Plan, nodes []api.Node, old ...api.Ref) bool {
	return plan.May(p) == api.OK && slices.EqualFunc(p.New, nodes, node.Same) && slices.Equal(p.Old, old) && int(p.Root) == -len(nodes)
}

// born sets the Birth and the Size of a branch as a modified one has them.
func born(n api.Node) api.Node {
	n.Birth, n.Size = 4, 0
	return n
}

// Promise 29.1.
func TestTwo(t *testing.T) {
	p, e := inner.Two(9, node.Leaf("b", "2"), "a", "1", 0, 0)
	if e != api.OK || !same(p, []api.Node{node.Bucket(binds("a", "1", "b", "2")...)}, 9) {
		t.Errorf("the chapter's example: %v, %v", p, e)
	}
	for _, level := range []int{13, 14, math.MaxInt} {
		if p, e := inner.Two(9, node.Leaf("b", "2"), "a", "1", level, 64); e != api.OK || !same(p, []api.Node{node.Bucket(binds("a", "1", "b", "2")...)}, 9) {
			t.Errorf("at level %d: %v, %v", level, p, e)
		}
	}
	for _, level := range []int{math.MinInt, -1, 0, 1} {
		at := max(level, 0)
		b := branch.With(branch.With(node.Branch(0, nil, 0), chunk("a", at, 64), -1), chunk("b", at, 64), 9)
		if p, e := inner.Two(9, node.Leaf("b", "2"), "a", "1", level, 64); e != api.OK || !same(p, []api.Node{node.Leaf("a", "1"), b}) {
			t.Errorf("at level %d: %v, %v", level, p, e)
		}
	}
	// One bit: find two keys with the same one, which meet in a bucket at the last level.
	l := []string{"a"}
	for i := 0; len(l) < 2; i++ {
		if k := strconv.Itoa(i); hash.Of(k, 1) == hash.Of("a", 1) {
			l = append(l, k)
		}
	}
	bucket := node.Bucket(append(binds("a", "1"), binds(l[1], "2")...)...)
	b := branch.With(node.Branch(0, nil, 0), chunk("a", 0, 1), -2)
	if p, e := inner.Two(9, node.Leaf(l[1], "2"), "a", "1", 0, 1); e != api.OK || !same(p, []api.Node{bucket, node.Inner(-1), b}, 9) {
		t.Errorf("equal chunks: %v, %v", p, e)
	}
	for _, c := range []api.Node{node.Leaf("a", "2"), {}, node.Tomb("b", ""), node.Inner(3)} {
		if p, e := inner.Two(9, c, "a", "1", 0, 64); e != api.ErrForm || len(p.New)+len(p.Old) != 0 || p.Root != 0 {
			t.Errorf("Two with %v: %v, %v", c, p, e)
		}
	}
}

// Promise 29.2.
func TestPut(t *testing.T) {
	leaf := node.Leaf("b", "2")
	empty := node.Branch(0, nil, 0)
	one := branch.With(empty, chunk("a", 0, 64), -1)
	if p, e := inner.Put(7, empty, 0, api.Node{}, "a", "1", 0, 64); e != api.OK || !same(p, []api.Node{node.Leaf("a", "1"), one}, 7) {
		t.Errorf("into no children: %v, %v", p, e)
	}
	if p, e := inner.Put(7, empty, 0, node.Inner(5), "a", "1", -5, 64); e != api.OK || !same(p, []api.Node{node.Leaf("a", "1"), one}, 7) {
		t.Errorf("what is ignored counts: %v, %v", p, e)
	}
	n := fan(2, map[string]api.Ref{"a": 5, "b": 6})
	if p, e := inner.Put(7, n, 5, node.Leaf("a", "0"), "a", "1", 2, 64); e != api.OK || !same(p, []api.Node{node.Leaf("a", "1"), born(branch.With(n, chunk("a", 2, 64), -1))}, 7, 5) {
		t.Errorf("of a bound key: %v, %v", p, e)
	}
	two, _ := inner.Two(5, leaf, "a", "1", 3, 64)
	nodes := append(slices.Clone(two.New), node.Inner(two.Root))
	nodes = append(nodes, born(branch.With(n, chunk("a", 2, 64), api.Ref(-len(nodes)))))
	if p, e := inner.Put(7, n, 5, leaf, "a", "1", 2, 64); e != api.OK || !same(p, nodes, 7) {
		t.Errorf("beside another key: %v, %v", p, e)
	}
	deep := fan(12, map[string]api.Ref{"a": 5})
	b := branch.With(node.Branch(0, nil, 0), chunk("a", 12, 64), -2)
	if p, e := inner.Put(7, deep, 5, leaf, "a", "1", 12, 64); e != api.OK || !same(p, []api.Node{node.Bucket(binds("a", "1", "b", "2")...), node.Inner(-1), born(b)}, 7, 5) {
		t.Errorf("at the last level: %v, %v", p, e)
	}
	bucket := node.Bucket(binds("a", "1", "b", "2")...)
	if p, e := inner.Put(7, bucket, 5, api.Node{}, "c", "3", 13, 64); e != api.OK || !same(p, []api.Node{node.Bucket(binds("a", "1", "b", "2", "c", "3")...)}, 7) {
		t.Errorf("into a bucket: %v, %v", p, e)
	}
	if p, e := inner.Put(7, bucket, 0, api.Node{}, "a", "3", 13, 64); e != api.OK || !same(p, []api.Node{node.Bucket(binds("a", "3", "b", "2")...)}, 7) {
		t.Errorf("of a key of a bucket: %v, %v", p, e)
	}
	for _, c := range []struct {
		n     api.Node
		child api.Ref
		c     api.Node
	}{{leaf, 0, leaf}, {node.Tomb("a", ""), 0, leaf}, {node.Inner(3), 0, leaf}, {api.Node{}, 0, leaf}, {n, 5, node.Inner(3)}, {n, 5, node.Tomb("a", "")}, {n, 5, api.Node{}}} {
		if p, e := inner.Put(7, c.n, c.child, c.c, "a", "1", 0, 64); e != api.ErrForm || len(p.New)+len(p.Old) != 0 || p.Root != 0 {
			t.Errorf("Put with %v: %v, %v", c, p, e)
		}
	}
}

// Promise 29.3.
func TestDrop(t *testing.T) {
	a, b := node.Leaf("a", "1"), node.Leaf("b", "2")
	n := fan(1, map[string]api.Ref{"a": 5, "b": 6})
	only := fan(0, map[string]api.Ref{"a": 5})
	three := fan(1, map[string]api.Ref{"a": 5, "b": 6, "c": 4})
	if p, e := inner.Drop(7, n, 5, a, b, "a", 1, 64); e != api.OK || !same(p, []api.Node{node.Tomb("b", "2")}, 7, 5, 6) {
		t.Errorf("one of two: %v, %v", p, e)
	}
	if p, e := inner.Drop(7, n, 5, a, node.Inner(3), "a", 1, 64); e != api.OK || !same(p, []api.Node{born(branch.Without(n, chunk("a", 1, 64)))}, 7, 5) {
		t.Errorf("beside an NInner: %v, %v", p, e)
	}
	if p, e := inner.Drop(7, three, 5, a, b, "a", 1, 64); e != api.OK || !same(p, []api.Node{born(branch.Without(three, chunk("a", 1, 64)))}, 7, 5) {
		t.Errorf("one of three: %v, %v", p, e)
	}
	for _, level := range []int{0, -3} {
		if p, e := inner.Drop(7, only, 5, a, b, "a", level, 64); e != api.OK || !same(p, []api.Node{born(node.Branch(0, nil, 0))}, 7, 5) {
			t.Errorf("the only child: %v, %v", p, e)
		}
	}
	top := fan(0, map[string]api.Ref{"a": 5, "b": 6})
	if p, e := inner.Drop(7, top, 5, a, b, "a", 0, 64); e != api.OK || !same(p, []api.Node{born(branch.Without(top, chunk("a", 0, 64)))}, 7, 5) {
		t.Errorf("at level 0: %v, %v", p, e)
	}
	bucket := node.Bucket(binds("a", "1", "b", "2")...)
	if p, e := inner.Drop(7, bucket, 0, api.Node{}, api.Node{}, "a", 13, 64); e != api.OK || !same(p, []api.Node{node.Tomb("b", "2")}, 7) {
		t.Errorf("from a bucket of two: %v, %v", p, e)
	}
	if p, e := inner.Drop(7, node.Bucket(binds("a", "1", "b", "2", "c", "3")...), 0, api.Node{}, api.Node{}, "b", 13, 64); e != api.OK || !same(p, []api.Node{node.Bucket(binds("a", "1", "c", "3")...)}, 7) {
		t.Errorf("from a bucket of three: %v, %v", p, e)
	}
	for _, c := range []struct {
		n     api.Node
		child api.Ref
		c     api.Node
		key   string
	}{{bucket, 5, a, "x"}, {n, 0, a, "a"}, {n, 5, b, "a"}, {n, 5, node.Inner(3), "a"}, {n, 5, node.Tomb("a", "1"), "a"}, {a, 5, a, "a"}, {node.Tomb("a", ""), 5, a, "a"}, {api.Node{}, 5, a, "a"}} {
		if p, e := inner.Drop(7, c.n, c.child, c.c, b, c.key, 1, 64); e != api.ErrForm || len(p.New)+len(p.Old) != 0 || p.Root != 0 {
			t.Errorf("Drop with %v: %v, %v", c, p, e)
		}
	}
}

// Promise 29.3.
func TestBeside(t *testing.T) {
	n := fan(1, map[string]api.Ref{"a": 5, "b": 6})
	for _, c := range []struct {
		n           api.Node
		key         string
		level, bits int
		want        api.Ref
	}{
		{n, "a", 1, 64, 6}, {n, "b", 1, 64, 5}, {n, "a", 0, 64, 0}, {n, "a", -1, 64, 0}, {fan(1, map[string]api.Ref{"b": 6}), "a", -1, 64, 0}, {n, "a", 1, 0, 0},
		{fan(1, map[string]api.Ref{"b": 6}), "a", 1, 64, 6}, {fan(1, map[string]api.Ref{"a": 5}), "a", 1, 64, 0},
		{fan(1, map[string]api.Ref{"a": 5, "b": 6, "c": 7}), "a", 1, 64, 0}, {node.Branch(0, nil, 0), "a", 1, 64, 0},
		{node.Leaf("b", ""), "a", 1, 64, 0}, {node.Tree("k", "", 0, 5, 1), "a", 1, 64, 0}, {node.Inner(6), "a", 1, 64, 0}, {api.Node{}, "a", 1, 64, 0},
		{fan(13, map[string]api.Ref{"a": 5}), "a", 99, 64, 0},
	} {
		if r := inner.Beside(c.n, c.key, c.level, c.bits); r != c.want {
			t.Errorf("Beside(%v, %s, %d, %d) = %d", c.n, c.key, c.level, c.bits, r)
		}
	}
}

// Promise 29.4.
func TestCleanAndRenew(t *testing.T) {
	tomb := node.Tomb("a", "1")
	one, two := fan(0, map[string]api.Ref{"a": 5}), fan(1, map[string]api.Ref{"a": 5, "b": 8})
	low := fan(1, map[string]api.Ref{"a": 5})
	for _, level := range []int{0, -9} {
		if p, e := inner.Clean(7, one, 5, 6, tomb, "a", level, 64); e != api.OK || !same(p, []api.Node{node.Leaf("a", "1"), born(branch.With(one, chunk("a", 0, 64), -1))}, 7, 5, 6) {
			t.Errorf("at level %d: %v, %v", level, p, e)
		}
	}
	if p, e := inner.Clean(7, low, 5, 6, tomb, "a", 1, 64); e != api.OK || !same(p, []api.Node{tomb}, 7, 5, 6) {
		t.Errorf("the only child: %v, %v", p, e)
	}
	if p, e := inner.Clean(7, two, 5, 6, tomb, "a", 1, 64); e != api.OK || !same(p, []api.Node{node.Leaf("a", "1"), born(branch.With(two, chunk("a", 1, 64), -1))}, 7, 5, 6) {
		t.Errorf("one of two: %v, %v", p, e)
	}
	if p, e := inner.Renew(7, two, 5, node.Inner(33), "a", 1, 64); e != api.OK || !same(p, []api.Node{node.Inner(33), born(branch.With(two, chunk("a", 1, 64), -1))}, 7, 5) {
		t.Errorf("Renew: %v, %v", p, e)
	}
	for _, c := range []struct {
		n     api.Node
		child api.Ref
		t     api.Node
	}{{node.Leaf("a", ""), 5, tomb}, {node.Bucket(binds("a", "1", "b", "2")...), 5, tomb}, {api.Node{}, 5, tomb}, {one, 0, tomb}, {one, 5, node.Leaf("a", "1")}, {one, 5, api.Node{}}} {
		if p, e := inner.Clean(7, c.n, c.child, 6, c.t, "a", 0, 64); e != api.ErrForm || len(p.New)+len(p.Old) != 0 || p.Root != 0 {
			t.Errorf("Clean with %v: %v, %v", c, p, e)
		}
		if c.t.Kind == api.NTomb {
			c.t = node.Inner(3)
		}
		if p, e := inner.Renew(7, c.n, c.child, c.t, "a", 0, 64); e != api.ErrForm || len(p.New)+len(p.Old) != 0 || p.Root != 0 {
			t.Errorf("Renew with %v: %v, %v", c, p, e)
		}
	}
}

// Promise 29.5: all bindings but the key's one stay, whatever is put and dropped below one branch.
func TestBindings(t *testing.T) {
	for _, bits := range []int{1, 3, 6, 64} {
		h := []api.Node{node.Branch(0, nil, 0)}
		root := api.Ref(1)
		var want []api.Pair
		for i := range 200 {
			key, val := "k"+strconv.Itoa(i*i%23), strconv.Itoa(i)
			n := h[root-1]
			child := branch.Child(n, chunk(key, 0, bits))
			var c api.Node
			if child != 0 {
				c = h[child-1]
			}
			p, e := inner.Put(root, n, child, c, key, val, 0, bits)
			next := pair.Put(want, key, val)
			if i%3 == 2 {
				p, e = inner.Drop(root, n, child, c, api.Node{}, key, 0, bits)
				next = pair.Drop(want, key)
			}
			if e != api.OK {
				continue
			}
			g, s, bad := plan.Do(h, p)
			l, _ := heap.Binds(g, s)
			if bad != api.OK || !slices.Equal(pair.Make(l...), next) || !seek.Lies(g, s, bits) {
				t.Fatalf("%d bits, %s: %v, %v, want %v", bits, key, bad, l, next)
			}
			h, root, want = g, s, next
		}
	}
}
