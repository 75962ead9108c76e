package pair_test

import (
	"boscage/api"
	"boscage/pair"
	"slices"
	"testing"
)

// list makes a list of keys and values.
func list(s ...string) (l []api.Pair) {
	for i := 0; i < len(s); i += 2 {
		l = append(l, api.Pair{Key: s[i], Val: s[i+1]})
	}
	return l
}

func example() []api.Pair { return list("a", "3", "b", "4", "d", "2") }

// lists holds sorted lists and others.
func lists() [][]api.Pair {
	return [][]api.Pair{nil, list("", ""), list("a", "1"), example(), list("a", "1", "a", "2"), list("b", "1", "a", "2", "b", "3"), list("b", "1", "d", "2", "a", "3", "b", "4"), list("\xff", "1", "", "2", "a", "", "", "9", "\xff", "")}
}

func keys() []string { return []string{"", "\x00", "a", "aa", "b", "c", "d", "e", "\xff"} }

// bound makes a Go map of a list: the last binding counts.
func bound(l []api.Pair) map[string]string {
	m := map[string]string{}
	for _, p := range l {
		m[p.Key] = p.Val
	}
	return m
}

// ascending lists a Go map in the order of its keys.
func ascending(m map[string]string) (l []api.Pair) {
	for k, v := range m {
		l = append(l, api.Pair{Key: k, Val: v})
	}
	slices.SortFunc(l, func(a, b api.Pair) int {
		if a.Key < b.Key {
			return -1
		}
		return 1
	})
	return l
}

// Promise 7.1.
func TestIsAndMake(t *testing.T) {
	for i, l := range lists() {
		before := slices.Clone(l)
		got := pair.Make(l...)
		if !slices.Equal(got, ascending(bound(l))) || !pair.Is(got) {
			t.Errorf("Make(%v) = %v", l, got)
		}
		if pair.Is(l) != (i < 4) {
			t.Errorf("Is(%v) = %v", l, pair.Is(l))
		}
		for j := range got {
			got[j].Val = "changed"
		}
		if !slices.Equal(l, before) {
			t.Errorf("Make(%v) shares memory or changed its argument", before)
		}
	}
	if got := pair.Make(list("b", "1", "d", "2", "a", "3", "b", "4")...); !slices.Equal(got, example()) {
		t.Errorf("the chapter's example of Make: %v", got)
	}
}

// Promises 7.1 and 7.3.
func TestGet(t *testing.T) {
	for _, l := range lists() {
		for _, k := range keys() {
			want, is := bound(l)[k]
			if got, ok := pair.Get(l, k); got != want || ok != is {
				t.Errorf("Get(%v, %q) = %q, %v", l, k, got, ok)
			}
		}
	}
}

// Promises 7.2 and 7.3.
func TestPutAndDrop(t *testing.T) {
	for _, l := range lists() {
		before := slices.Clone(l)
		for _, k := range keys() {
			m := bound(l)
			m[k] = "9"
			put := pair.Put(l, k, "9")
			if !slices.Equal(put, ascending(m)) {
				t.Errorf("Put(%v, %q, 9) = %v", l, k, put)
			}
			delete(m, k)
			drop := pair.Drop(l, k)
			if !slices.Equal(drop, ascending(m)) {
				t.Errorf("Drop(%v, %q) = %v", l, k, drop)
			}
			for _, out := range [][]api.Pair{put, drop} {
				for i := range out {
					out[i].Val = "changed"
				}
			}
			if !slices.Equal(l, before) {
				t.Fatalf("the argument %v became %v", before, l)
			}
		}
	}
	if got := pair.Put(example(), "c", "9"); !slices.Equal(got, list("a", "3", "b", "4", "c", "9", "d", "2")) {
		t.Errorf("the chapter's example of Put: %v", got)
	}
}

// Promise 7.2.
func TestAfterAndFloor(t *testing.T) {
	for _, l := range lists() {
		for _, k := range keys() {
			var after, floor api.Pair
			var above, below bool
			for _, p := range ascending(bound(l)) {
				if p.Key <= k {
					floor, below = p, true
				} else if !above {
					after, above = p, true
				}
			}
			if p, ok := pair.After(l, k); p != after || ok != above {
				t.Errorf("After(%v, %q) = %v, %v", l, k, p, ok)
			}
			if p, ok := pair.Floor(l, k); p != floor || ok != below {
				t.Errorf("Floor(%v, %q) = %v, %v", l, k, p, ok)
			}
		}
	}
}
