package mask_test

import (
	"boscage/mask"
	"math"
	"slices"
	"testing"
)

func masks() []uint32 {
	return []uint32{0, 1, 8, 9, 0x80000009, 0x80000000, 0xffffffff, 0xaaaaaaaa, 0x00ffff00}
}

// numbers holds all elements and what is none.
func numbers() []int {
	l := []int{math.MinInt, -33, -32, -4, -1, 32, 33, 63, 64, 99, math.MaxInt}
	for i := range 32 {
		l = append(l, i)
	}
	return l
}

// elements lists a mask's elements bit by bit.
func elements(m uint32) (l []int) {
	for i := range 32 {
		if m&(1<<i) != 0 {
			l = append(l, i)
		}
	}
	return l
}

// Promise 6.1.
func TestHasAndPlace(t *testing.T) {
	for _, m := range masks() {
		for _, i := range numbers() {
			place := 0
			for _, e := range elements(m) {
				if e < i {
					place++
				}
			}
			if mask.Has(m, i) != slices.Contains(elements(m), i) || mask.Place(m, i) != place {
				t.Errorf("Has(%x, %d) = %v, Place = %d", m, i, mask.Has(m, i), mask.Place(m, i))
			}
		}
	}
	if mask.Place(9, 3) != 1 || mask.Place(9, 99) != 2 || mask.Place(9, -4) != 0 {
		t.Error("the chapter's examples of Place")
	}
}

// Promises 6.1 and 6.3.
func TestWithAndWithout(t *testing.T) {
	for _, m := range masks() {
		for _, i := range numbers() {
			with, without := mask.With(m, i), mask.Without(m, i)
			for _, e := range numbers() {
				is := mask.Has(m, e)
				if i == e && i >= 0 && i < 32 {
					if !mask.Has(with, e) || mask.Has(without, e) {
						t.Errorf("With(%x, %d) = %x, Without = %x", m, i, with, without)
					}
				} else if mask.Has(with, e) != is || mask.Has(without, e) != is {
					t.Errorf("With(%x, %d) = %x or Without = %x changed %d", m, i, with, without, e)
				}
			}
		}
	}
	if mask.With(9, 1) != 11 || mask.With(9, 32) != 9 || mask.Without(9, 3) != 1 || mask.Without(9, -1) != 9 {
		t.Error("the chapter's examples")
	}
}

// Promise 6.2.
func TestVisits(t *testing.T) {
	for _, m := range masks() {
		l := elements(m)
		if mask.Count(m) != len(l) || !slices.Equal(mask.All(m), l) {
			t.Errorf("Count(%x) = %d, All = %v", m, mask.Count(m), mask.All(m))
		}
		if i, ok := mask.First(m); ok != (len(l) > 0) || ok && i != l[0] || !ok && i != 0 {
			t.Errorf("First(%x) = %d, %v", m, i, ok)
		}
		for _, i := range numbers() {
			at := slices.IndexFunc(l, func(e int) bool { return e > i })
			next, ok := mask.Next(m, i)
			if ok != (at >= 0) || ok && next != l[at] || !ok && next != 0 {
				t.Errorf("Next(%x, %d) = %d, %v", m, i, next, ok)
			}
		}
	}
}

// Promise 6.3.
func TestPlaces(t *testing.T) {
	for _, m := range masks() {
		for at, e := range mask.All(m) {
			if mask.Place(m, e) != at {
				t.Errorf("Place(%x, %d) = %d, want %d", m, e, mask.Place(m, e), at)
			}
		}
	}
}
