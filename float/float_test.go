package float_test

import (
	"boscage/float"
	"math"
	"testing"
)

var negZero = math.Copysign(0, -1)

// ordered holds floats in their order.
func ordered() []float64 {
	return []float64{math.Inf(-1), -math.MaxFloat64, -2.5, -1, -math.SmallestNonzeroFloat64, negZero, 0, math.SmallestNonzeroFloat64, 1, 1.5, 2.5, math.MaxFloat64, math.Inf(1), math.NaN()}
}

// bits tells floats apart that == does not, and takes all NaNs for one.
func bits(f float64) uint64 {
	if math.IsNaN(f) {
		return 1
	}
	return math.Float64bits(f)
}

// Promises 2.1 and 2.3.
func TestRank(t *testing.T) {
	for _, c := range []struct {
		f    float64
		want uint64
	}{{0, 1 << 63}, {negZero, 1<<63 - 1}, {math.NaN(), 18444492273895866369}, {math.Float64frombits(0xfff0000000000001), 18444492273895866369}, {math.Float64frombits(0x7fffffffffffffff), 18444492273895866369}, {1, 0xbff0000000000000}, {-1, 0x400fffffffffffff}, {math.Inf(1), 0xfff0000000000000}, {math.Inf(-1), 0x000fffffffffffff}} {
		if got := float.Rank(c.f); got != c.want {
			t.Errorf("Rank(%v) = %x, want %x", c.f, got, c.want)
		}
	}
}

// Promises 2.1 and 2.3.
func TestUnrank(t *testing.T) {
	for _, f := range ordered() {
		if got, ok := float.Unrank(float.Rank(f)); !ok || bits(got) != bits(f) {
			t.Errorf("Unrank(Rank(%v)) = %v, %v", f, got, ok)
		}
	}
	for _, n := range []uint64{0, 1, 1<<52 - 2, math.MaxUint64, 18444492273895866368, 18444492273895866370, 0xfff0000000000001} {
		if got, ok := float.Unrank(n); ok || bits(got) != 0 {
			t.Errorf("Unrank(%d) = %v, %v", n, got, ok)
		}
	}
	for _, n := range []uint64{1<<52 - 1, 0xfff0000000000000} {
		if got, ok := float.Unrank(n); !ok || !math.IsInf(got, 0) || float.Rank(got) != n {
			t.Errorf("Unrank(%d) = %v, %v", n, got, ok)
		}
	}
}

// Promises 2.1 and 2.3.
func TestLessAndSame(t *testing.T) {
	l := ordered()
	for i, a := range l {
		for j, b := range l {
			if float.Less(a, b) != (i < j) || float.Same(a, b) != (i == j) {
				t.Errorf("%v against %v: %v, %v", a, b, float.Less(a, b), float.Same(a, b))
			}
		}
	}
	if odd := math.Float64frombits(0xfff8000000000123); !float.Same(odd, math.NaN()) || float.Less(odd, math.NaN()) || float.Less(math.NaN(), odd) {
		t.Error("NaNs with other bits are not equivalent")
	}
}

// Promise 2.2.
func TestAggregates(t *testing.T) {
	inf, nan := math.Inf(1), math.NaN()
	for _, c := range []struct {
		l                      []float64
		least, most, sum, mean float64
	}{
		{nil, inf, -inf, 0, nan},
		{[]float64{3, -1, nan}, -1, nan, nan, nan},
		{[]float64{3, nan}, 3, nan, nan, nan},
		{[]float64{nan}, nan, nan, nan, nan},
		{[]float64{1, 2, 3.5}, 1, 3.5, 6.5, 6.5 / 3},
		{[]float64{negZero}, negZero, negZero, negZero, negZero},
		{[]float64{negZero, 0}, negZero, 0, 0, 0},
		{[]float64{0, negZero}, negZero, 0, 0, 0},
		{[]float64{negZero, negZero}, negZero, negZero, negZero, negZero},
		{[]float64{1, 2}, 1, 2, 3, 1.5},
		{[]float64{inf, -inf}, -inf, inf, nan, nan},
		{[]float64{1e308, 1e308, -1e308}, -1e308, 1e308, inf, inf},
		{[]float64{1, 1e100, -1e100}, -1e100, 1e100, 0, 0},
	} {
		got := []float64{float.Least(c.l...), float.Most(c.l...), float.Sum(c.l...), float.Mean(c.l...)}
		for i, want := range []float64{c.least, c.most, c.sum, c.mean} {
			if bits(got[i]) != bits(want) {
				t.Errorf("%v: aggregate %d is %v, want %v", c.l, i, got[i], want)
			}
		}
	}
}
