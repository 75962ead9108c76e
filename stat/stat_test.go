package stat_test

import (
	"boscage/api"
	"boscage/float"
	"boscage/stat"
	"math"
	"slices"
	"testing"
)

func equal(a, b float64) bool { return float.Same(a, b) }

func same(a, b stat.Stat) bool {
	return a.N == b.N && equal(a.Sum, b.Sum) && equal(a.Mean, b.Mean) && equal(a.Least, b.Least) && equal(a.Most, b.Most) && equal(a.Spread, b.Spread)
}

func samples() []float64 {
	return []float64{math.Inf(-1), -math.MaxFloat64, -1, -math.SmallestNonzeroFloat64, math.Copysign(0, -1), 0, math.SmallestNonzeroFloat64, 1, 2.5, math.MaxFloat64, math.Inf(1), math.NaN()}
}

// Promise 41.1.
func TestOf(t *testing.T) {
	inf, nan, zero := math.Inf(1), math.NaN(), math.Copysign(0, -1)
	for _, c := range []struct {
		l    []float64
		want stat.Stat
	}{
		{[]float64{2, 6, 1}, stat.Stat{N: 3, Sum: 9, Mean: 3, Least: 1, Most: 6, Spread: 5}},
		{nil, stat.Stat{Mean: nan, Least: inf, Most: -inf, Spread: -inf}},
		{[]float64{nan, 1}, stat.Stat{N: 2, Sum: nan, Mean: nan, Least: 1, Most: nan, Spread: nan}},
		{[]float64{inf}, stat.Stat{N: 1, Sum: inf, Mean: inf, Least: inf, Most: inf, Spread: nan}},
		{[]float64{zero}, stat.Stat{N: 1, Sum: zero, Mean: zero, Least: zero, Most: zero, Spread: 0}},
		{[]float64{zero, 0}, stat.Stat{N: 2, Sum: 0, Mean: 0, Least: zero, Most: 0, Spread: 0}},
		{[]float64{-1, -4}, stat.Stat{N: 2, Sum: -5, Mean: -2.5, Least: -4, Most: -1, Spread: 3}},
	} {
		if got := stat.Of(c.l...); !same(got, c.want) {
			t.Errorf("Of(%v) = %v", c.l, got)
		}
	}
}

// Promises 41.1 and 41.3.
func TestMiddle(t *testing.T) {
	nan := math.NaN()
	for _, c := range []struct {
		l    []float64
		want float64
	}{{[]float64{5, 1, 3}, 3}, {[]float64{4, 1, 3, 2}, 2}, {[]float64{nan, 1}, 1}, {nil, nan}, {[]float64{nan}, nan}, {[]float64{7}, 7}, {[]float64{0, math.Copysign(0, -1)}, math.Copysign(0, -1)}, {[]float64{2, 2, 1}, 2}} {
		before := slices.Clone(c.l)
		if got := stat.Middle(c.l...); !equal(got, c.want) {
			t.Errorf("Middle(%v) = %v", c.l, got)
		}
		if !slices.EqualFunc(before, c.l, equal) {
			t.Errorf("Middle changed %v", before)
		}
	}
	l := samples()
	for n := 1; n <= len(l); n++ {
		s, m := stat.Of(l[:n]...), stat.Middle(l[:n]...)
		if !slices.ContainsFunc(l[:n], func(f float64) bool { return equal(f, m) }) {
			t.Errorf("Middle of %v is %v", l[:n], m)
		}
		for _, f := range l[:n] {
			if float.Less(s.Most, f) || float.Less(f, s.Least) {
				t.Errorf("%v is not between %v and %v", f, s.Least, s.Most)
			}
		}
	}
}

// Promise 41.1.
func TestShare(t *testing.T) {
	for _, c := range []struct {
		part, whole int
		want        float64
	}{{1, 4, 0.25}, {-1, 0, math.Inf(-1)}, {0, 0, math.NaN()}, {1, 0, math.Inf(1)}, {0, 5, 0}, {0, -5, math.Copysign(0, -1)}, {3, -2, -1.5}, {math.MinInt, math.MaxInt, -1}} {
		if got := stat.Share(c.part, c.whole); !equal(got, c.want) {
			t.Errorf("Share(%d, %d) = %v", c.part, c.whole, got)
		}
	}
}

// Promises 41.2 and 41.3.
func TestText(t *testing.T) {
	for f, want := range map[float64]string{1: "bff0000000000000", 0: "8000000000000000", math.Inf(-1): "000fffffffffffff", math.Inf(1): "fff0000000000000"} {
		if got := stat.Text(f); got != want {
			t.Errorf("Text(%v) = %s", f, got)
		}
	}
	if stat.Text(math.NaN()) != "fff8000000000001" || stat.Text(math.Copysign(0, -1)) != "7fffffffffffffff" {
		t.Error("Text of NaN or of -0")
	}
	l := samples()
	for i, f := range l {
		s := stat.Text(f)
		if got, e := stat.Parse(s); !equal(got, f) || e != api.OK {
			t.Errorf("Parse(%s) = %v, %v", s, got, e)
		}
		for j, g := range l {
			if (s < stat.Text(g)) != (i < j) {
				t.Errorf("the texts of %v and %v", f, g)
			}
		}
	}
	for _, s := range []string{"", "bff000000000000", "bff00000000000000", "BFF0000000000000", "bfF0000000000000", "ffffffffffffffff", "0000000000000000", "+ff0000000000000", "0xf0000000000000", "bff_000000000000", "bff000000000000g", " bff000000000000", "fff8000000000000"} {
		if f, e := stat.Parse(s); !equal(f, 0) || e != api.ErrText {
			t.Errorf("Parse(%q) = %v, %v", s, f, e)
		}
	}
}
