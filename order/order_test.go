package order_test

import (
	"boscage/order"
	"strings"
	"testing"
)

// samples holds the edges: nothing, prefixes, bytes 0 and 255, and what is not text.
func samples() []string {
	return []string{"", "\x00", "\x00\x00", "a", "a\x00", "ab", "abc", "abcd", "abd", "b", "ba", "\x7f", "\x80", "\xff", "\xff\x00", "\xff\xff", "é"}
}

// Promise 1.1.
func TestCompare(t *testing.T) {
	for _, a := range samples() {
		for _, b := range samples() {
			if got, want := order.Compare(a, b), strings.Compare(a, b); got != want {
				t.Errorf("Compare(%q, %q) = %d, want %d", a, b, got, want)
			}
		}
	}
	if order.Compare("a", "ab") != -1 || order.Compare("b", "ab") != 1 || order.Compare("", "") != 0 {
		t.Error("the chapter's examples of Compare")
	}
}

// Promise 1.1.
func TestCommon(t *testing.T) {
	for _, c := range []struct {
		a, b string
		want int
	}{{"abcx", "abd", 2}, {"", "", 0}, {"", "a", 0}, {"ab", "ab", 2}, {"ab", "abc", 2}, {"\xff\x00a", "\xff\x00b", 2}, {"x", "y", 0}} {
		if got := order.Common(c.a, c.b); got != c.want {
			t.Errorf("Common(%q, %q) = %d, want %d", c.a, c.b, got, c.want)
		}
		if got := order.Common(c.b, c.a); got != c.want {
			t.Errorf("Common(%q, %q) = %d, want %d", c.b, c.a, got, c.want)
		}
	}
}

// Promise 1.1.
func TestBetween(t *testing.T) {
	for _, lo := range samples() {
		for _, hi := range samples() {
			for _, s := range samples() {
				if got, want := order.Between(lo, hi, s), lo <= s && s < hi; got != want {
					t.Errorf("Between(%q, %q, %q) = %v", lo, hi, s, got)
				}
			}
		}
	}
	if !order.Between("a", "c", "a") || order.Between("a", "c", "c") || order.Between("c", "a", "b") {
		t.Error("the chapter's examples of Between")
	}
}

// Promise 1.2.
func TestNext(t *testing.T) {
	for _, s := range samples() {
		if got := order.Next(s); got != s+"\x00" {
			t.Errorf("Next(%q) = %q", s, got)
		}
	}
}

// Promise 1.2.
func TestMiddle(t *testing.T) {
	for _, c := range []struct {
		a, b, want string
		ok         bool
	}{{"ab", "abcd", "abc", true}, {"b", "b", "", false}, {"abc", "b", "b", true}, {"a", "abc", "ab", true}, {"", "xyz", "x", true}, {"", "", "", false}, {"b", "a", "", false}, {"ab", "a", "", false}, {"a\xfe", "a\xffq", "a\xff", true}} {
		if got, ok := order.Middle(c.a, c.b); got != c.want || ok != c.ok {
			t.Errorf("Middle(%q, %q) = %q, %v", c.a, c.b, got, ok)
		}
	}
}

// Promise 1.3.
func TestProperties(t *testing.T) {
	for _, s := range samples() {
		for _, x := range samples() {
			if order.Between(s, order.Next(s), x) != (x == s) {
				t.Errorf("%q between %q and its Next", x, s)
			}
			m, ok := order.Middle(s, x)
			if ok != (s < x) {
				t.Fatalf("Middle(%q, %q) = %v", s, x, ok)
			}
			if ok && (m <= s || m > x || len(m) > 0 && x[:len(m)-1] > s) {
				t.Errorf("Middle(%q, %q) = %q", s, x, m)
			}
		}
	}
}
