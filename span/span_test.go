package span_test

import (
	"boscage/span"
	"math"
	"testing"
)

func numbers() []int { return []int{math.MinInt, -3, -1, 0, 1, 2, 3, 5, 6, 9, math.MaxInt} }

// Promise 15.1.
func TestHas(t *testing.T) {
	for _, c := range []struct {
		birth, death, version int
		want                  bool
	}{{2, 6, 2, true}, {2, 6, 6, false}, {2, 6, 5, true}, {2, 6, 1, false}, {6, 2, 4, false}, {3, 3, 3, false}, {math.MinInt, math.MaxInt, math.MinInt, true}, {math.MinInt, math.MaxInt, math.MaxInt, false}} {
		if got := span.Has(c.birth, c.death, c.version); got != c.want {
			t.Errorf("Has(%d, %d, %d) = %v", c.birth, c.death, c.version, got)
		}
	}
}

// Promise 15.1.
func TestSome(t *testing.T) {
	for _, c := range []struct {
		birth, death int
		l            []int
		want         int
		ok           bool
	}{{2, 6, []int{9, 6, 4, 3}, 4, true}, {2, 6, nil, 0, false}, {2, 6, []int{6, 1, -1}, 0, false}, {-2, 2, []int{0}, 0, true}, {6, 2, []int{3, 4}, 0, false}} {
		if got, ok := span.Some(c.birth, c.death, c.l...); got != c.want || ok != c.ok {
			t.Errorf("Some(%d, %d, %v) = %d, %v", c.birth, c.death, c.l, got, ok)
		}
	}
}

// Promises 15.2 and 15.3.
func TestMeet(t *testing.T) {
	for _, a := range numbers() {
		for _, b := range numbers() {
			for _, c := range numbers() {
				for _, d := range numbers() {
					birth, death, ok := span.Meet(a, b, c, d)
					if !ok && (birth != 0 || death != 0) || ok && birth >= death {
						t.Fatalf("Meet(%d, %d, %d, %d) = %d, %d, %v", a, b, c, d, birth, death, ok)
					}
					for _, v := range numbers() {
						if (ok && span.Has(birth, death, v)) != (span.Has(a, b, v) && span.Has(c, d, v)) {
							t.Fatalf("Meet(%d, %d, %d, %d) = %d, %d, %v and version %d", a, b, c, d, birth, death, ok, v)
						}
					}
				}
			}
		}
	}
	if birth, death, ok := span.Meet(1, 5, 3, 9); birth != 3 || death != 5 || !ok {
		t.Error("the chapter's example of Meet")
	}
	if _, _, ok := span.Meet(1, 3, 3, 9); ok {
		t.Error("the chapter's example of an empty Meet")
	}
}

// Promise 15.2.
func TestLen(t *testing.T) {
	for _, c := range []struct {
		birth, death, want int
		ok                 bool
	}{{-2, 5, 7, true}, {5, 1, 0, true}, {4, 4, 0, true}, {math.MaxInt, math.MinInt, 0, true}, {math.MinInt, math.MaxInt, 0, false}, {math.MinInt, 0, 0, false}, {math.MinInt, -1, math.MaxInt, true}, {0, math.MaxInt, math.MaxInt, true}, {-1, math.MaxInt, 0, false}} {
		if got, ok := span.Len(c.birth, c.death); got != c.want || ok != c.ok {
			t.Errorf("Len(%d, %d) = %d, %v", c.birth, c.death, got, ok)
		}
	}
}
