package code_test

import (
	"boscage/api"
	"boscage/code"
	"math"
	"strings"
	"testing"
)

func integer(n int64) code.Value { return code.Value{Kind: code.Int, N: n} }
func float(f float64) code.Value { return code.Value{Kind: code.Float, F: math.Float64bits(f)} }
func text(s string) code.Value   { return code.Value{Kind: code.Text, S: s} }
func bits(n uint64) code.Value   { return code.Value{Kind: code.Float, F: n} }
func kind(k int) code.Value      { return code.Value{Kind: k, N: 1, F: 1, S: "s"} }
func long(n int) string          { return strings.Repeat("x", n) }
func ordered() (l []code.Value) {
	for _, n := range []int64{math.MinInt64, -256, -1, 0, 1, 7, 255, math.MaxInt64} {
		l = append(l, integer(n))
	}
	for _, f := range []float64{math.Inf(-1), -2.5, math.Copysign(0, -1), 0, 1, math.Inf(1), math.NaN()} {
		l = append(l, float(f))
	}
	for _, s := range []string{"", "\x00", "a", "ab", "b", "\xff", "\xff" + long(14)} {
		l = append(l, text(s))
	}
	return l
}

// Promise 3.1.
func TestMake(t *testing.T) {
	for _, c := range []struct {
		v    code.Value
		want string
		code api.Errno
	}{
		{integer(-1), "\x01\x7f\xff\xff\xff\xff\xff\xff\xff", api.OK},
		{integer(0), "\x01\x80\x00\x00\x00\x00\x00\x00\x00", api.OK},
		{integer(math.MinInt64), "\x01\x00\x00\x00\x00\x00\x00\x00\x00", api.OK},
		{float(1), "\x02\xbf\xf0\x00\x00\x00\x00\x00\x00", api.OK},
		{bits(0xfff8000000000123), "\x02\xff\xf8\x00\x00\x00\x00\x00\x01", api.OK},
		{text(""), "\x03", api.OK},
		{text(long(15)), "\x03" + long(15), api.OK},
		{text(long(16)), "", api.ErrLong},
		{kind(0), "", api.ErrKind},
		{kind(4), "", api.ErrKind},
		{code.Value{Kind: -1, S: long(20)}, "", api.ErrKind},
		{code.Value{Kind: code.Int, N: 0, F: 9, S: long(20)}, "\x01\x80\x00\x00\x00\x00\x00\x00\x00", api.OK},
	} {
		if got, e := code.Make(c.v); got != c.want || e != c.code {
			t.Errorf("Make(%v) = %x, %v", c.v, got, e)
		}
	}
}

// Promise 3.2.
func TestParse(t *testing.T) {
	if v, e := code.Parse("\x01\x80\x00\x00\x00\x00\x00\x00\x07"); v != integer(7) || e != api.OK {
		t.Errorf("the Int 7: %v, %v", v, e)
	}
	if v, e := code.Parse("\x02\xff\xf8\x00\x00\x00\x00\x00\x01"); v != bits(9221120237041090561) || e != api.OK {
		t.Errorf("NaN: %v, %v", v, e)
	}
	for _, s := range []string{"", "\x00", "\x04a", "\x01", "\x01abcdefg", "\x01abcdefghi", "\x02", "\x02abcdefg", "\x02abcdefghi", "\x02\xff\xff\xff\xff\xff\xff\xff\xff", "\x02\x00\x00\x00\x00\x00\x00\x00\x00", "\x03" + long(16), "abc"} {
		if v, e := code.Parse(s); v != (code.Value{}) || e != api.ErrForm {
			t.Errorf("Parse(%x) = %v, %v", s, v, e)
		}
	}
}

// Promise 3.3.
func TestLess(t *testing.T) {
	l := ordered()
	for i, a := range l {
		for j, b := range l {
			if code.Less(a, b) != (i < j) {
				t.Errorf("Less(%v, %v) = %v", a, b, i >= j)
			}
		}
		for _, bad := range []code.Value{kind(0), kind(4), text(long(16))} {
			if code.Less(a, bad) || code.Less(bad, a) {
				t.Errorf("Less holds for %v and %v", a, bad)
			}
		}
	}
	if !code.Less(integer(5), float(0)) || code.Less(text("b"), text("ab")) {
		t.Error("the chapter's examples of Less")
	}
}

// Promise 3.4.
func TestProperties(t *testing.T) {
	l := ordered()
	for i, a := range l {
		x, e := code.Make(a)
		back, bad := code.Parse(x)
		if a == float(math.NaN()) {
			a = bits(9221120237041090561)
		}
		if e != api.OK || bad != api.OK || back != a {
			t.Errorf("Parse(Make(%v)) = %v, %v", a, back, bad)
		}
		for j, b := range l {
			if y, _ := code.Make(b); (x < y) != (i < j) {
				t.Errorf("keys of %v and %v", a, b)
			}
		}
	}
}
