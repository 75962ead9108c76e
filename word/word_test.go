package word_test

import (
	"boscage/api"
	"boscage/word"
	"math"
	"testing"
)

const bound = 1 << 62

// w makes a word.
func w(r api.Ref, tag, id int) api.Word { return api.Word{Ref: r, Tag: tag, Id: id} }

// Promise 11.1.
func TestRoot(t *testing.T) {
	for _, c := range []struct {
		r       api.Ref
		version int
		want    api.Word
		code    api.Errno
	}{{0, -1, w(0, 0, 0), api.ErrArg}, {5, math.MinInt, w(0, 0, 0), api.ErrArg}, {0, 0, w(0, 0, 0), api.OK}, {-7, 3, w(-7, 3, 0), api.OK}, {1025, math.MaxInt, w(1025, math.MaxInt, 0), api.OK}} {
		if got, e := word.Root(c.r, c.version); got != c.want || e != c.code {
			t.Errorf("Root(%d, %d) = %v, %v", c.r, c.version, got, e)
		}
	}
}

// Promises 11.1 and 11.4.
func TestNote(t *testing.T) {
	for _, epoch := range []int{0, 1, 3, math.MaxInt} {
		for _, version := range []int{-1, 0, 1, bound - 1} {
			got, e := word.Note(epoch, version)
			back, v, bad := word.Noted(got)
			if got != w(0, epoch, version+1) || e != api.OK || back != epoch || v != version || bad != api.OK {
				t.Errorf("Note(%d, %d) = %v, %v; Noted of it %d, %d, %v", epoch, version, got, e, back, v, bad)
			}
		}
	}
	for _, c := range [][2]int{{-1, 0}, {math.MinInt, -1}, {0, -2}, {1, math.MinInt}, {1, bound}, {1, math.MaxInt}} {
		if got, e := word.Note(c[0], c[1]); got != w(0, 0, 0) || e != api.ErrArg {
			t.Errorf("Note(%v) = %v, %v", c, got, e)
		}
	}
	for _, x := range []api.Word{w(1, 0, 0), w(-1, 3, 0), w(0, -1, 0), w(0, 0, -1), w(0, 0, bound+1), w(0, 3, math.MaxInt), w(0, math.MinInt, 0)} {
		if epoch, version, e := word.Noted(x); epoch != 0 || version != 0 || e != api.ErrForm {
			t.Errorf("Noted(%v) = %d, %d, %v", x, epoch, version, e)
		}
	}
	if epoch, version, e := word.Noted(w(0, 3, 0)); epoch != 3 || version != -1 || e != api.OK {
		t.Error("the chapter's example of Noted")
	}
}

// Promise 11.2.
func TestHandle(t *testing.T) {
	for _, c := range []struct {
		kind, id int
		r        api.Ref
		version  int
		want     api.Word
		code     api.Errno
	}{
		{word.Held, 7, 2051, 4, w(2051, 4, 7), api.OK},
		{word.Held, -16, -3, 0, w(-3, 0, -16), api.OK},
		{word.Held, 7, 2051, -1, w(0, 0, 0), api.ErrArg},
		{word.Held, -17, 2051, 1, w(0, 0, 0), api.ErrArg},
		{word.Open, 7, 2051, -9, w(0, -1, 7), api.OK},
		{word.Open, -17, 0, 0, w(0, 0, 0), api.ErrArg},
		{word.Kept, math.MaxInt, 2051, 4, w(0, -2, math.MaxInt), api.OK},
		{0, 7, 0, 0, w(0, 0, 0), api.ErrArg},
		{4, 7, 0, 0, w(0, 0, 0), api.ErrArg},
		{-1, 7, 0, 0, w(0, 0, 0), api.ErrArg},
	} {
		got, e := word.Handle(c.kind, c.id, c.r, c.version)
		if got != c.want || e != c.code {
			t.Errorf("Handle(%d, %d, %d, %d) = %v, %v", c.kind, c.id, c.r, c.version, got, e)
		}
		if kind, bad := word.Kind(got); e == api.OK && (kind != c.kind || bad != api.OK) {
			t.Errorf("Kind(%v) = %d, %v", got, kind, bad)
		}
	}
	if word.Open != 1 || word.Kept != 2 || word.Held != 3 {
		t.Error("the kinds have other numbers")
	}
}

// Promise 11.2.
func TestKind(t *testing.T) {
	for _, x := range []api.Word{w(5, -1, 0), w(5, -2, 0), w(0, -3, 0), w(0, math.MinInt, 0), w(0, -1, -17), w(1025, 0, -17), w(0, 4, math.MinInt)} {
		if kind, e := word.Kind(x); kind != 0 || e != api.ErrForm {
			t.Errorf("Kind(%v) = %d, %v", x, kind, e)
		}
	}
}

// Promises 11.2, 11.3 and 11.4.
func TestNumbers(t *testing.T) {
	for handles := 1; handles <= 16; handles++ {
		for i := range handles {
			x, e := word.First(i, handles)
			if x != w(0, -1, i-handles) || e != api.OK {
				t.Errorf("First(%d, %d) = %v, %v", i, handles, x, e)
			}
			for round := range 5 {
				id, e := word.Next(x, handles)
				if place, ok := word.Place(id, handles); id != i+round*handles || e != api.OK || place != i || !ok {
					t.Errorf("handle %d of %d, round %d: %d, %v; Place %d, %v", i, handles, round, id, e, place, ok)
				}
				x, _ = word.Handle(word.Held, id, 1025, 3)
			}
		}
	}
	for _, c := range [][2]int{{4, 4}, {-1, 4}, {0, 0}, {0, 17}, {0, -1}, {16, 16}} {
		if x, e := word.First(c[0], c[1]); x != w(0, 0, 0) || e != api.ErrArg {
			t.Errorf("First(%v) = %v, %v", c, x, e)
		}
	}
}

// Promise 11.3.
func TestNext(t *testing.T) {
	for _, c := range []struct {
		w       api.Word
		handles int
		want    int
		code    api.Errno
	}{
		{w(2051, 4, 7), 4, 11, api.OK},
		{w(5, -1, 0), 0, 0, api.ErrArg},
		{w(5, -1, 0), 17, 0, api.ErrArg},
		{w(5, -1, 0), 4, 0, api.ErrForm},
		{w(0, -1, math.MinInt), 4, 0, api.ErrForm},
		{w(0, -1, bound-4), 4, bound, api.OK},
		{w(0, -1, bound-3), 4, 0, api.ErrArg},
		{w(0, -2, math.MaxInt), 16, 0, api.ErrArg},
	} {
		if got, e := word.Next(c.w, c.handles); got != c.want || e != c.code {
			t.Errorf("Next(%v, %d) = %d, %v", c.w, c.handles, got, e)
		}
	}
	if i, ok := word.Place(7, 4); i != 3 || !ok {
		t.Error("the chapter's example of Place")
	}
	for _, c := range [][2]int{{-1, 4}, {7, 0}, {7, 17}, {math.MinInt, 4}, {7, -4}} {
		if i, ok := word.Place(c[0], c[1]); i != 0 || ok {
			t.Errorf("Place(%v) = %d, %v", c, i, ok)
		}
	}
}
