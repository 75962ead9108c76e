package cell_test

import (
	"boscage/api"
	"boscage/cell"
	"math"
	"testing"
)

// w makes a word.
func w(r api.Ref, tag, id int) api.Word { return api.Word{Ref: r, Tag: tag, Id: id} }

// Promise 12.1.
func TestNew(t *testing.T) {
	for _, n := range []int{-1, 201, math.MinInt, math.MaxInt} {
		if c, e := cell.New(n); c != nil || e != api.ErrArg {
			t.Errorf("New(%d) = %v, %v", n, c, e)
		}
	}
	for _, n := range []int{0, 1, 200} {
		c, e := cell.New(n)
		if e != api.OK || c.Count() != 0 {
			t.Fatalf("New(%d): %v", n, e)
		}
		for i := range n {
			if x, e := c.Load(i); x != w(0, 0, 0) || e != api.OK {
				t.Errorf("cell %d of %d: %v, %v", i, n, x, e)
			}
		}
		if x, e := c.Load(n); x != w(0, 0, 0) || e != api.ErrArg {
			t.Errorf("cell %d of %d: %v, %v", n, n, x, e)
		}
	}
}

// Promises 12.1 and 12.2.
func TestExample(t *testing.T) {
	c, _ := cell.New(2)
	if e := c.Store(1, w(0, 5, 0)); e != api.OK {
		t.Error(e)
	}
	if ok, e := c.Cas(1, w(0, 5, 0), w(0, 0, 7)); !ok || e != api.OK {
		t.Error(ok, e)
	}
	if ok, e := c.Cas(1, w(0, 5, 0), w(0, 0, 8)); ok || e != api.OK {
		t.Error(ok, e)
	}
	if x, e := c.Swap(1, w(9, 0, 0)); x != w(0, 0, 7) || e != api.OK {
		t.Error(x, e)
	}
	if x, e := c.Load(1); x != w(9, 0, 0) || e != api.OK {
		t.Error(x, e)
	}
	if x, e := c.Load(2); x != w(0, 0, 0) || e != api.ErrArg {
		t.Error(x, e)
	}
	if c.Count() != 5 || c.Peek(9) != w(0, 0, 0) || c.Peek(1) != w(9, 0, 0) || c.Peek(0) != w(0, 0, 0) || c.Count() != 5 {
		t.Errorf("%d accesses", c.Count())
	}
}

// Promises 12.1 and 12.2: cells that there are not.
func TestNoCell(t *testing.T) {
	c, _ := cell.New(2)
	c.Store(0, w(1, 2, 3))
	for _, i := range []int{-1, 2, math.MinInt, math.MaxInt} {
		x, load := c.Load(i)
		ok, cas := c.Cas(i, w(0, 0, 0), w(1, 1, 1))
		y, swap := c.Swap(i, w(1, 1, 1))
		if x != w(0, 0, 0) || y != x || ok || load != api.ErrArg || cas != api.ErrArg || swap != api.ErrArg || c.Store(i, x) != api.ErrArg || c.Peek(i) != x {
			t.Errorf("cell %d: %v, %v, %v", i, load, cas, swap)
		}
	}
	if c.Count() != 1 || c.Peek(0) != w(1, 2, 3) || c.Peek(1) != w(0, 0, 0) {
		t.Error("what has an error changed something")
	}
	for _, c := range []*cell.Cells{nil, {}} {
		x, load := c.Load(0)
		ok, cas := c.Cas(0, x, x)
		y, swap := c.Swap(-1, x)
		if x != w(0, 0, 0) || y != x || ok || load != api.ErrForm || cas != api.ErrForm || swap != api.ErrForm || c.Store(0, x) != api.ErrForm || c.Peek(0) != x || c.Count() != 0 {
			t.Errorf("no cells: %v, %v, %v", load, cas, swap)
		}
	}
}

// Promise 12.3.
func TestCas(t *testing.T) {
	words := []api.Word{w(0, 0, 0), w(1, 0, 0), w(0, 1, 0), w(0, 0, 1), w(1, 1, 1), w(-1, -1, -1)}
	for _, is := range words {
		for _, old := range words {
			for _, put := range words {
				c, _ := cell.New(3)
				c.Store(1, is)
				ok, e := c.Cas(1, old, put)
				want := is
				if is == old {
					want = put
				}
				if ok != (is == old) || e != api.OK || c.Peek(1) != want || c.Peek(0) != words[0] || c.Peek(2) != words[0] {
					t.Errorf("Cas of %v from %v to %v: %v, %v", is, old, put, ok, c.Peek(1))
				}
			}
		}
	}
}
