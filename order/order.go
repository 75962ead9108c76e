// Package order is layer 1: byte strings in lexicographic order. See shared/doc/01-order.md.
package order

// Compare returns -1, 0 or 1 as a is less than b, equal to it or greater.
func Compare(a, b string) int {
	n := Common(a, b)
	switch {
	case n == len(a) && n == len(b):
		return 0
	case n == len(a):
		return -1
	case n == len(b):
		return 1
	case a[n] < b[n]:
		return -1
	}
	return 1
}

// Common returns the length of the longest common prefix.
func Common(a, b string) int {
	for i := range min(len(a), len(b)) {
		if a[i] != b[i] {
			return i
		}
	}
	return min(len(a), len(b))
}

// Next returns the least string that is greater than s.
func Next(s string) string {
	return s + "\x00"
}

// Middle returns the shortest prefix of b that is greater than a, if a is less than b.
func Middle(a, b string) (string, bool) {
	if Compare(a, b) >= 0 {
		return "", false
	}
	// Up to the common prefix b is a prefix of a, so no shorter one is greater.
	return b[:Common(a, b)+1], true
}

// Between reports whether s is less than hi and not less than lo.
func Between(lo, hi, s string) bool {
	return Compare(lo, s) <= 0 && Compare(s, hi) < 0
}
