package pri_test

import (
	"boscage/pri"
	"hash/fnv"
	"testing"
)

func samples() []string {
	return []string{"", "a", "b", "c", "ab", "\x00", "\xff", "sixteen bytes ok", "a much longer string than any key"}
}

// mixed computes the priority by the chapter's words.
func mixed(s string) uint64 {
	f := fnv.New64a()
	f.Write([]byte(s))
	h := f.Sum64()
	h ^= h >> 30
	h *= 13787848793156543929
	h ^= h >> 27
	h *= 10723151780598845931
	return h ^ h>>31
}

// Promise 5.1.
func TestOf(t *testing.T) {
	for _, s := range samples() {
		if got := pri.Of(s); got != mixed(s) {
			t.Errorf("Of(%q) = %x, want %x", s, got, mixed(s))
		}
	}
	if pri.Of("a") == pri.Of("b") {
		t.Error("a and b have the same priority")
	}
}

// Promises 5.2 and 5.3.
func TestAbove(t *testing.T) {
	for _, a := range samples() {
		for _, b := range samples() {
			if got := pri.Above(a, b); got != (mixed(a) > mixed(b)) {
				t.Errorf("Above(%q, %q) = %v", a, b, got)
			}
			if (pri.Above(a, b) != pri.Above(b, a)) != (a != b) {
				t.Errorf("%q and %q: not exactly one is above", a, b)
			}
			for _, c := range samples() {
				if pri.Above(a, b) && pri.Above(b, c) && !pri.Above(a, c) {
					t.Errorf("%q, %q, %q: not transitive", a, b, c)
				}
			}
		}
	}
}

// Promise 5.2.
func TestTop(t *testing.T) {
	if s, ok := pri.Top(); s != "" || ok {
		t.Errorf("Top() = %q, %v", s, ok)
	}
	if s, ok := pri.Top("", ""); s != "" || !ok {
		t.Errorf("Top of empty strings = %q, %v", s, ok)
	}
	for n := 1; n <= 2*len(samples()); n++ {
		// In the second round the list is turned, so that its top comes last.
		l := samples()[:min(n, len(samples()))]
		if n > len(samples()) {
			l = append(samples()[n-len(samples()):], l[:n-len(samples())]...)
		}
		top, ok := pri.Top(l...)
		found := false
		for _, s := range l {
			found = found || s == top
			if pri.Above(s, top) {
				t.Errorf("%q is above Top(%q) = %q", s, l, top)
			}
		}
		if !ok || !found {
			t.Errorf("Top(%q) = %q, %v", l, top, ok)
		}
	}
}
