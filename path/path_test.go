package path_test

import (
	"boscage/api"
	"boscage/heap"
	"boscage/node"
	"boscage/pair"
	"boscage/path"
	"boscage/tree"
	"math"
	"slices"
	"strconv"
	"testing"
)

func binds(s ...string) (l []api.Pair) {
	for i := 0; i < len(s); i += 2 {
		l = append(l, api.Pair{Key: s[i], Val: s[i+1]})
	}
	return l
}

// Promise 26.2: the chapter's examples and errors.
func TestExamples(t *testing.T) {
	h, r, _ := tree.Make(binds("b", "1", "d", "2", "f", "3")...)
	for _, c := range []struct {
		root api.Ref
		mode int
		key  string
		want api.Pair
		ok   bool
		code api.Errno
	}{
		{r, path.Get, "d", binds("d", "2")[0], true, api.OK}, {r, path.Get, "c", api.Pair{}, false, api.OK},
		{r, path.Floor, "e", binds("d", "2")[0], true, api.OK}, {r, path.Floor, "d", binds("d", "2")[0], true, api.OK}, {r, path.Floor, "a", api.Pair{}, false, api.OK},
		{r, path.After, "d", binds("f", "3")[0], true, api.OK}, {r, path.After, "f", api.Pair{}, false, api.OK}, {r, path.After, "", binds("b", "1")[0], true, api.OK},
		{r, path.First, "z", binds("b", "1")[0], true, api.OK}, {0, path.First, "z", api.Pair{}, false, api.OK},
		{9, 5, "a", api.Pair{}, false, api.ErrArg}, {r, 0, "a", api.Pair{}, false, api.ErrArg}, {r, math.MinInt, "a", api.Pair{}, false, api.ErrArg},
		{9, path.Get, "a", api.Pair{}, false, api.ErrForm}, {-1, path.First, "a", api.Pair{}, false, api.ErrForm},
	} {
		p, ok, n, e := path.Run(h, c.root, c.mode, c.key)
		if p != c.want || ok != c.ok || e != c.code || e != api.OK && n != 0 || n > 3 {
			t.Errorf("Run(%d, %d, %q) = %v, %v, %d, %v", c.root, c.mode, c.key, p, ok, n, e)
		}
	}
	wrong := []api.Node{node.Tree("b", "1", 0, 0, 2)}
	if _, _, _, e := path.Run(wrong, 1, path.Get, "b"); e != api.ErrForm {
		t.Errorf("no tree: %v", e)
	}
	if path.Get != 1 || path.Floor != 2 || path.After != 3 || path.First != 4 {
		t.Error("the modes have other numbers")
	}
	one, s, _ := tree.Make(binds("b", "1")...)
	floor, x, _, _ := path.Run(one, s, path.Floor, "c")
	after, y, _, _ := path.Run(one, s, path.After, "a")
	if _, z, _, _ := path.Run(one, s, path.Get, "a"); floor != binds("b", "1")[0] || after != floor || !x || !y || z {
		t.Error("the chapter's last example")
	}
}

// Promises 26.2 and 26.3.
func TestSearches(t *testing.T) {
	var l []api.Pair
	for i := range 80 {
		l = append(l, api.Pair{Key: "k" + strconv.Itoa(2*i), Val: strconv.Itoa(i)})
	}
	sorted := pair.Make(l...)
	h, r, _ := tree.Make(l...)
	depth, _ := heap.Depth(h, r)
	for i := range 200 {
		key := "k" + strconv.Itoa(i)
		val, has := pair.Get(sorted, key)
		floor, below := pair.Floor(sorted, key)
		after, above := pair.After(sorted, key)
		get := api.Pair{}
		if has {
			get = api.Pair{Key: key, Val: val}
		}
		for mode, want := range map[int]struct {
			p  api.Pair
			ok bool
		}{path.Get: {get, has}, path.Floor: {floor, below}, path.After: {after, above}, path.First: {sorted[0], true}} {
			p, ok, n, e := path.Run(h, r, mode, key)
			if p != want.p || ok != want.ok || e != api.OK || n > depth || n < 1 {
				t.Errorf("mode %d, %q: %v, %v, %d nodes, %v", mode, key, p, ok, n, e)
			}
		}
	}
	var got []api.Pair
	for p, ok, _, _ := path.Run(h, r, path.First, ""); ok && len(got) < 99; p, ok, _, _ = path.Run(h, r, path.After, p.Key) {
		got = append(got, p)
	}
	if !slices.Equal(got, sorted) {
		t.Errorf("the iteration yields %v", got)
	}
}

// Promise 26.1.
func TestFeed(t *testing.T) {
	p := path.New(7, path.Floor, "m")
	if b, ok := p.Answer(); p.Want() != 7 || ok || b != (api.Pair{}) {
		t.Error("a search at first")
	}
	p.Feed(node.Tree("k", "1", 3, 4, 9))
	if b, ok := p.Answer(); p.Want() != 4 || ok || b != (api.Pair{}) {
		t.Errorf("on its way it requests %d", p.Want())
	}
	p.Feed(node.Tree("p", "1", 0, 5, 2))
	if b, ok := p.Answer(); p.Want() != 0 || !ok || b != binds("k", "1")[0] {
		t.Errorf("at its end: %d, %v, %v", p.Want(), b, ok)
	}
	p.Feed(node.Tree("l", "1", 5, 5, 2))
	if b, ok := p.Answer(); p.Want() != 0 || !ok || b != binds("k", "1")[0] {
		t.Errorf("after its end: %d, %v, %v", p.Want(), b, ok)
	}
	g := path.New(7, path.Get, "k")
	g.Feed(node.Tree("k", "1", 3, 4, 9))
	if b, ok := g.Answer(); g.Want() != 0 || !ok || b != binds("k", "1")[0] {
		t.Error("Get does not end at its key")
	}
	f := path.New(7, path.Floor, "k")
	f.Feed(node.Tree("k", "1", 3, 4, 9))
	if f.Want() != 4 {
		t.Errorf("Floor requests %d behind its key", f.Want())
	}
	for _, n := range []api.Node{{}, node.Leaf("a", ""), node.Inner(4), {Kind: api.NTree}, {Kind: api.NTree, Kids: []api.Ref{1, 2, 3}}} {
		for mode := range 6 {
			p := path.New(7, mode, "k")
			p.Feed(n)
			if p.Want() != 0 {
				t.Errorf("%v does not end a search of mode %d", n, mode)
			}
		}
	}
	var none *path.Path
	none.Feed(node.Tree("k", "1", 3, 4, 9))
	if b, ok := none.Answer(); none.Want() != 0 || ok || b != (api.Pair{}) {
		t.Error("a nil search")
	}
}
