package hash_test

import (
	"boscage/hash"
	"hash/fnv"
	"math"
	"testing"
)

// Promise 4.1.
func TestOf(t *testing.T) {
	if hash.Of("a", 64) != 0xaf63dc4c8601ec8c || hash.Of("a", 4) != 12 || hash.Of("a", 0) != 0 || hash.Of("", 64) != 14695981039346656037 {
		t.Error("the chapter's examples of Of")
	}
	for _, s := range []string{"", "a", "ab", "\x00", "\xff\xfe", "sixteen bytes ok"} {
		f := fnv.New64a()
		f.Write([]byte(s))
		for _, bits := range []int{math.MinInt, -1, 0, 1, 5, 32, 63, 64, 65, math.MaxInt} {
			want := f.Sum64()
			if bits < 64 {
				want &= 1<<max(bits, 0) - 1
			}
			if got := hash.Of(s, bits); got != want {
				t.Errorf("Of(%q, %d) = %x, want %x", s, bits, got, want)
			}
		}
	}
}

// Promise 4.1.
func TestLevels(t *testing.T) {
	for bits, want := range map[int]int{math.MinInt: 0, -1: 0, 0: 0, 1: 1, 5: 1, 6: 2, 10: 2, 11: 3, 60: 12, 61: 13, 64: 13, 65: 13, math.MaxInt: 13} {
		if got := hash.Levels(bits); got != want {
			t.Errorf("Levels(%d) = %d, want %d", bits, got, want)
		}
	}
}

// Promise 4.1.
func TestChunk(t *testing.T) {
	for _, c := range []struct {
		h           uint64
		level, bits int
		want        int
	}{{0x3ff, 1, 8, 7}, {3, 0, 64, 3}, {3, 13, 64, 0}, {math.MaxUint64, 12, 64, 15}, {math.MaxUint64, 11, 64, 31}, {math.MaxUint64, -1, 64, 0}, {math.MaxUint64, math.MaxInt, 64, 0}, {math.MaxUint64, math.MinInt, 64, 0}, {math.MaxUint64, 0, 0, 0}, {math.MaxUint64, 0, -7, 0}, {math.MaxUint64, 0, 3, 7}, {math.MaxUint64, 1, 5, 0}, {32, 1, 10, 1}, {math.MaxUint64, 12, 99, 15}} {
		if got := hash.Chunk(c.h, c.level, c.bits); got != c.want {
			t.Errorf("Chunk(%x, %d, %d) = %d, want %d", c.h, c.level, c.bits, got, c.want)
		}
	}
}

// Promise 4.2.
func TestBefore(t *testing.T) {
	for _, c := range []struct {
		a, b uint64
		bits int
		want bool
	}{{32, 1, 10, true}, {1, 32, 10, false}, {256, 0, 8, false}, {0, 256, 8, false}, {0, 256, 9, true}, {0, 1, 0, false}, {0, 1 << 63, 64, true}, {1 << 63, 0, 64, false}, {1 << 63, 1, 64, true}, {5, 5, 64, false}} {
		if got := hash.Before(c.a, c.b, c.bits); got != c.want {
			t.Errorf("Before(%d, %d, %d) = %v", c.a, c.b, c.bits, got)
		}
	}
}

// Promise 4.3.
func TestProperties(t *testing.T) {
	for _, bits := range []int{0, 1, 7, 10} {
		for a := range uint64(1) << bits {
			for b := range uint64(1) << bits {
				equal := true
				for level := range hash.Levels(bits) {
					equal = equal && hash.Chunk(a, level, bits) == hash.Chunk(b, level, bits)
				}
				if equal != (a == b) {
					t.Fatalf("%d and %d with %d bits: equal chunks %v", a, b, bits, equal)
				}
				if x, y := hash.Before(a, b, bits), hash.Before(b, a, bits); x && y || (x || y) != (a != b) {
					t.Fatalf("%d and %d with %d bits: %v, %v", a, b, bits, x, y)
				}
			}
		}
	}
}
