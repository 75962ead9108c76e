package mem_test

import (
	"boscage/api"
	"boscage/mem"
	"boscage/node"
	"math"
	"slices"
	"strings"
	"testing"
)

// w makes a word.
func w(r api.Ref, tag, id int) api.Word { return api.Word{Ref: r, Tag: tag, Id: id} }

// example makes the chapter's memory.
func example(t *testing.T) *mem.Mem {
	t.Helper()
	m, e := mem.New(3, 2)
	leaf, bad := m.Take(node.Leaf("a", "1"))
	inner, worse := m.Take(node.Inner(1025))
	if e != api.OK || bad != api.OK || worse != api.OK || leaf != 1025 || inner != 1026 || m.Store(0, w(0, 4, 0)) != api.OK {
		t.Fatalf("the references are %d, %d", leaf, inner)
	}
	return m
}

// picture tells what a memory contains.
func picture(m *mem.Mem) (l []api.Node) {
	for _, r := range m.All() {
		n, _ := m.Look(r)
		l = append(l, n, api.Node{Main: r})
	}
	for i := range 3 {
		x := m.Peek(i)
		l = append(l, api.Node{Main: x.Ref, Size: x.Tag, Birth: x.Id})
	}
	return l
}

func same(a, b []api.Node) bool { return slices.EqualFunc(a, b, node.Same) }

// Promise 14.1.
func TestNew(t *testing.T) {
	for _, c := range [][2]int{{-1, 0}, {1001, 0}, {0, -1}, {0, 201}, {math.MinInt, math.MaxInt}} {
		if m, e := mem.New(c[0], c[1]); m != nil || e != api.ErrArg {
			t.Errorf("New(%v) = %v, %v", c, m, e)
		}
	}
	m, e := mem.New(1000, 200)
	if e != api.OK || m.Used() != 0 || len(m.All()) != 0 || m.Steps() != 0 || m.Faults() != 0 || m.Peek(199) != w(0, 0, 0) {
		t.Errorf("a new memory: %v, %d used", e, m.Used())
	}
}

// Promises 14.1 and 14.3.
func TestNodes(t *testing.T) {
	m := example(t)
	for _, c := range []struct {
		n    api.Node
		want api.Errno
	}{{api.Node{}, api.ErrKind}, {node.Leaf(strings.Repeat("k", 17), ""), api.ErrLong}, {node.Inner(0), api.ErrForm}} {
		if r, e := m.Take(c.n); r != 0 || e != c.want {
			t.Errorf("Take(%v) = %d, %v", c.n, r, e)
		}
	}
	b := node.Branch(3, []api.Ref{1025, 1026}, 2)
	r, e := m.Take(b)
	b.Kids[0] = 7
	got, bad := m.Read(r)
	if r != 1027 || e != api.OK || bad != api.OK || got.Kids[0] != 1025 {
		t.Errorf("Take of a branch: %d, %v; Read of it %v, %v", r, e, got, bad)
	}
	got.Kids[0] = 8
	if n, ok := m.Look(r); !ok || n.Kids[0] != 1025 {
		t.Errorf("Look = %v, %v: it shares memory", n, ok)
	}
	if n, _ := m.Look(r); n.Kids[1] == 1026 {
		n.Kids[1] = 5
		if again, _ := m.Look(r); again.Kids[1] != 1026 {
			t.Error("Look shares memory")
		}
	}
	if r, e := m.Take(node.Leaf("b", "2")); r != 0 || e != api.ErrFull {
		t.Errorf("Take in a full memory: %d, %v", r, e)
	}
	if r, e := m.Take(api.Node{}); r != 0 || e != api.ErrKind {
		t.Errorf("Take of an invalid node in a full memory: %d, %v", r, e)
	}
	if m.Steps() != 10 || m.Faults() != 0 || m.Used() != 3 || !slices.Equal(m.All(), []api.Ref{1025, 1026, 1027}) {
		t.Errorf("%d accesses, %d used", m.Steps(), m.Used())
	}
	if e := m.Free(1025); e != api.OK {
		t.Error(e)
	}
	if n, e := m.Read(1025); !node.Same(n, api.Node{}) || e != api.ErrStale || m.Faults() != 1 {
		t.Errorf("Read of a freed node: %v, %v, %d faults", n, e, m.Faults())
	}
	if e := m.Free(1025); e != api.ErrStale || m.Faults() != 2 || m.Steps() != 13 {
		t.Errorf("Free of a freed node: %v, %d faults, %d accesses", e, m.Faults(), m.Steps())
	}
	if n, ok := m.Look(1025); ok || !node.Same(n, api.Node{}) || m.Faults() != 2 {
		t.Errorf("Look at a freed node: %v, %v", n, ok)
	}
}

// Promises 14.1 and 14.3.
func TestCells(t *testing.T) {
	m := example(t)
	if x, e := m.Load(0); x != w(0, 4, 0) || e != api.OK {
		t.Error(x, e)
	}
	if ok, e := m.Cas(0, w(0, 4, 0), w(1, 1, 1)); !ok || e != api.OK {
		t.Error(ok, e)
	}
	if ok, e := m.Cas(0, w(0, 4, 0), w(2, 2, 2)); ok || e != api.OK {
		t.Error(ok, e)
	}
	if x, e := m.Swap(0, w(3, 3, 3)); x != w(1, 1, 1) || e != api.OK {
		t.Error(x, e)
	}
	for _, i := range []int{-1, 2, math.MaxInt} {
		x, load := m.Load(i)
		ok, cas := m.Cas(i, x, x)
		y, swap := m.Swap(i, x)
		if x != w(0, 0, 0) || y != x || ok || load != api.ErrArg || cas != api.ErrArg || swap != api.ErrArg || m.Store(i, x) != api.ErrArg {
			t.Errorf("cell %d: %v, %v, %v", i, load, cas, swap)
		}
	}
	if m.Peek(0) != w(3, 3, 3) || m.Peek(1) != w(0, 0, 0) || m.Peek(2) != w(0, 0, 0) || m.Steps() != 3+4+12 || m.Faults() != 0 {
		t.Errorf("%d accesses", m.Steps())
	}
}

// Promises 14.2 and 14.4.
func TestSwing(t *testing.T) {
	zero, four := w(0, 0, 0), w(0, 4, 0)
	m := example(t)
	for _, c := range []struct {
		r, old, put api.Ref
		i           int
		want        api.Word
		ok          bool
		code        api.Errno
	}{
		{1026, 1025, 7, 0, four, true, api.OK},
		{1026, 1025, 8, 0, four, false, api.OK},
		{1026, 7, 8, 0, zero, false, api.OK},
		{1025, 7, 8, 0, four, false, api.ErrKind},
		{1026, 7, 0, 0, four, false, api.ErrArg},
		{1026, 7, 8, 2, four, false, api.ErrArg},
		{1026, 7, 8, -1, four, false, api.ErrArg},
		{1027, 7, 0, 0, four, false, api.ErrArg},
		{1027, 7, 8, 0, four, false, api.ErrStale},
		{0, 7, 8, 0, four, false, api.ErrStale},
		{1026, 7, -9, 1, zero, true, api.OK},
	} {
		before, steps, faults := picture(m), m.Steps(), m.Faults()
		ok, e := m.Swing(c.r, c.old, c.put, c.i, c.want)
		if ok != c.ok || e != c.code || m.Steps() != steps+1 || (m.Faults() > faults) != (e == api.ErrStale) {
			t.Errorf("Swing(%d, %d, %d, %d, %v) = %v, %v", c.r, c.old, c.put, c.i, c.want, ok, e)
		}
		if c.ok {
			before[2].Main = c.put
		}
		if !same(before, picture(m)) {
			t.Errorf("after Swing(%d, %d, %d, %d, %v): %v", c.r, c.old, c.put, c.i, c.want, picture(m))
		}
	}
}

// Promises 14.2 and 14.4.
func TestTurn(t *testing.T) {
	four, five := w(0, 4, 0), w(0, 5, 0)
	m := example(t)
	for _, c := range []struct {
		i       int
		old     api.Word
		r, main api.Ref
		ok      bool
		code    api.Errno
	}{
		{0, four, 1026, 1024, false, api.OK},
		{0, five, 1026, 1025, false, api.OK},
		{1, four, 1026, 1025, false, api.OK},
		{2, four, 1026, 1025, false, api.ErrArg},
		{-1, four, 77, 1025, false, api.ErrArg},
		{0, four, 77, 1025, false, api.ErrStale},
		{0, four, 1025, 1025, false, api.ErrKind},
		{0, four, 1026, 1025, true, api.OK},
		{0, four, 1026, 1025, false, api.OK},
	} {
		before, steps, faults := picture(m), m.Steps(), m.Faults()
		ok, e := m.Turn(c.i, c.old, five, c.r, c.main)
		if ok != c.ok || e != c.code || m.Steps() != steps+1 || (m.Faults() > faults) != (e == api.ErrStale) {
			t.Errorf("Turn(%d, %v, %d, %d) = %v, %v", c.i, c.old, c.r, c.main, ok, e)
		}
		if c.ok {
			before[4].Size = 5
		}
		if !same(before, picture(m)) {
			t.Errorf("after Turn(%d, %v, %d, %d): %v", c.i, c.old, c.r, c.main, picture(m))
		}
	}
	if m.Peek(0) != five {
		t.Error("the word was not replaced")
	}
}

// Promises 14.1 to 14.3: a memory that New did not make.
func TestInvalid(t *testing.T) {
	for _, m := range []*mem.Mem{nil, {}} {
		r, take := m.Take(api.Node{})
		n, read := m.Read(1025)
		x, load := m.Load(9)
		cas, casCode := m.Cas(9, x, x)
		y, swap := m.Swap(9, x)
		swing, swingCode := m.Swing(1, 1, 0, 9, x)
		turn, turnCode := m.Turn(9, x, x, 1, 1)
		for i, e := range []api.Errno{take, read, load, casCode, swap, swingCode, turnCode, m.Free(1), m.Store(9, x)} {
			if e != api.ErrForm {
				t.Errorf("call %d: %v", i, e)
			}
		}
		look, ok := m.Look(1025)
		if r != 0 || !node.Same(n, look) || !node.Same(n, api.Node{}) || x != y || x != w(0, 0, 0) || cas || swing || turn || ok {
			t.Error("an answer beside an error")
		}
		if m.Peek(0) != x || m.Used() != 0 || len(m.All()) != 0 || m.Steps() != 0 || m.Faults() != 0 {
			t.Error("no memory has something")
		}
	}
}
