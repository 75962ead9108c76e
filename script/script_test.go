package script_test

import (
	"boscage/api"
	"boscage/script"
	"math"
	"slices"
	"strings"
	"testing"
)

// Promise 42.1: the chapter's examples.
func TestExamples(t *testing.T) {
	l := []api.Entry{{T: 3, C: api.Call{Op: api.OpSwap, Key: "ab", Old: "c"}}, {C: api.Call{Op: api.OpNextAt, Key: "k", H: 9}}, {C: api.Call{Op: 200}}}
	b, e := script.Encode(l)
	if !slices.Equal(b, []byte{3, 4, 2, 97, 98, 0, 1, 99, 0, 11, 1, 107, 9, 0, 200}) || e != api.OK {
		t.Errorf("Encode = %v, %v", b, e)
	}
	for _, c := range []struct {
		b    []byte
		want []api.Entry
	}{
		{nil, nil},
		{[]byte{1, 2, 19, 65, 66}, []api.Entry{{T: 1, C: api.Call{Op: api.OpPut, Key: "AB"}}}},
		{[]byte{7}, []api.Entry{{T: 7}}},
		{[]byte{0, 1, 1, 97}, []api.Entry{{C: api.Call{Op: api.OpGet, Key: "a"}}}},
		{[]byte{9, 1}, []api.Entry{{T: 9, C: api.Call{Op: api.OpGet}}}},
		{[]byte{9, 4, 5, 97, 98}, []api.Entry{{T: 9, C: api.Call{Op: api.OpSwap, Key: "ab"}}}},
		{[]byte{9, 4, 1, 97, 1, 98, 33, 99}, []api.Entry{{T: 9, C: api.Call{Op: api.OpSwap, Key: "a", Val: "b", Old: "c"}}}},
		{[]byte{9, 8}, []api.Entry{{T: 9, C: api.Call{Op: api.OpFree}}}},
		{[]byte{9, 8, 255, 1, 7, 2, 13}, []api.Entry{{T: 9, C: api.Call{Op: api.OpFree, H: 255}}, {T: 1, C: api.Call{Op: api.OpSnap}}, {T: 2, C: api.Call{Op: api.OpSweep}}}},
		{[]byte{9, 9, 17, 3, 5}, []api.Entry{{T: 9, C: api.Call{Op: api.OpGetAt, H: 3}}, {T: 5}}},
		{[]byte{0, 14, 0, 255}, []api.Entry{{C: api.Call{Op: 14}}, {C: api.Call{Op: 255}}}},
	} {
		before := slices.Clone(c.b)
		if got := script.Decode(c.b); !slices.Equal(got, c.want) || !slices.Equal(c.b, before) {
			t.Errorf("Decode(%v) = %v", before, got)
		}
	}
	if got := script.Decode(make([]byte, 20000)); len(got) != 5000 || got[4999] != (api.Entry{}) {
		t.Errorf("20,000 zero bytes are %d entries", len(got))
	}
}

// Promise 42.1: errors.
func TestErrors(t *testing.T) {
	long := strings.Repeat("k", 17)
	entry := func(thread int, c api.Call) []api.Entry { return []api.Entry{{T: thread, C: c}} }
	for i, c := range []struct {
		l    []api.Entry
		want api.Errno
	}{
		{make([]api.Entry, 5000), api.OK}, {make([]api.Entry, 5001), api.ErrFull}, {append(make([]api.Entry, 5000), entry(256, api.Call{})...), api.ErrFull},
		{entry(256, api.Call{Op: api.OpGet, Key: long}), api.ErrRange}, {entry(-1, api.Call{}), api.ErrRange}, {entry(0, api.Call{Op: 256}), api.ErrRange}, {entry(0, api.Call{Op: -1}), api.ErrRange}, {entry(0, api.Call{Op: api.OpFree, H: 256}), api.ErrRange}, {entry(0, api.Call{Op: api.OpGet, H: -1}), api.ErrRange}, {entry(math.MaxInt, api.Call{}), api.ErrRange},
		{entry(0, api.Call{Op: api.OpGet, Key: long}), api.ErrLong}, {entry(0, api.Call{Op: api.OpSnap, Key: long}), api.ErrLong}, {entry(0, api.Call{Op: api.OpSwap, Old: long}), api.ErrLong}, {entry(0, api.Call{Op: api.OpPut, Val: long}), api.ErrLong},
		{entry(0, api.Call{Op: api.OpSnap, H: 1}), api.ErrForm}, {entry(0, api.Call{Op: 200, Key: "k"}), api.ErrForm}, {entry(0, api.Call{Op: api.OpGet, Val: "v"}), api.ErrForm},
		{append(entry(0, api.Call{Op: api.OpSnap, H: 1}), entry(256, api.Call{})...), api.ErrForm},
		{entry(255, api.Call{Op: api.OpNextAt, Key: long[1:], H: 255}), api.OK},
	} {
		b, e := script.Encode(c.l)
		if e != c.want || e != api.OK && len(b) != 0 {
			t.Errorf("case %d: %d bytes, %v", i, len(b), e)
		}
	}
}

// Promise 42.2.
func TestSame(t *testing.T) {
	a := api.Entry{T: 1, C: api.Call{Op: api.OpGet, Key: "a"}}
	b := api.Entry{T: 1, C: api.Call{Op: api.OpGet, Key: "b"}}
	for _, c := range []struct {
		x, y []api.Entry
		want bool
	}{{nil, nil, true}, {nil, []api.Entry{}, true}, {[]api.Entry{a, b}, []api.Entry{a, b}, true}, {[]api.Entry{a, b}, []api.Entry{b, a}, false}, {[]api.Entry{a}, []api.Entry{a, a}, false}, {[]api.Entry{a}, []api.Entry{{T: 2, C: a.C}}, false}} {
		if script.Same(c.x, c.y) != c.want {
			t.Errorf("Same(%v, %v) = %v", c.x, c.y, !c.want)
		}
	}
}

// Promise 42.3.
func TestInverse(t *testing.T) {
	d := uint64(1)
	for n := range 400 {
		b := make([]byte, n)
		for i := range b {
			d = d*6364136223846793005 + 1442695040888963407
			b[i] = byte(d >> 40)
			if d>>60 < 8 {
				b[i] %= 16
			}
		}
		l := script.Decode(b)
		again, e := script.Encode(l)
		if e != api.OK || !script.Same(script.Decode(again), l) {
			t.Fatalf("%v: %v, %v", b, l, e)
		}
	}
}
