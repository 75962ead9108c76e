package seek

import (
	"boscage/api"
	"boscage/hash"
	"boscage/heap"
	"boscage/mask"
	"boscage/node"
)

// Lies reports whether h is valid and r is well-formed at level 0.
func Lies(h []api.Node, r api.Ref, bits int) bool {
	if _, code := heap.Count(h, r); code != api.OK {
		return false
	}
	w := &walk{h: h, bits: bits, keys: map[string]int{}}
	return r == 0 || w.lies(r, nil)
}

// walk visits the nodes below a reference; keys holds the keys that it has met.
type walk struct {
	h      []api.Node
	bits   int
	keys   map[string]int
	visits int
}

// lies reports whether r is well-formed at the end of a path of chunks.
func (w *walk) lies(r api.Ref, path []int) bool {
	n, ok := w.visit(r)
	for ok && n.Kind == api.NInner {
		n, ok = w.visit(n.Main)
	}
	switch n.Kind {
	case api.NLeaf, api.NTomb:
		return w.bound(n, path)
	case api.NBucket:
		return len(path) >= hash.Levels(w.bits) && w.bound(n, path)
	case api.NBranch:
		return len(path) < hash.Levels(w.bits) && w.branch(n, path)
	}
	return false
}

// visit returns the node of r, unless it is one too many: below a well-formed reference there is one way to each node.
func (w *walk) visit(r api.Ref) (api.Node, bool) {
	w.visits++
	if w.visits > len(w.h) {
		return api.Node{}, false
	}
	return w.h[r-1], true
}

// branch reports whether a branch is well-formed: with a binding below each child, and the right Size.
func (w *walk) branch(n api.Node, path []int) bool {
	before := len(w.keys)
	for i, chunk := range mask.All(n.Map) {
		had := len(w.keys)
		if !w.lies(n.Kids[i], append(path, chunk)) || len(w.keys) == had {
			return false
		}
	}
	return n.Size == 0 || n.Size == len(w.keys)-before
}

// bound reports whether the keys of a node are new and have the chunks of the path.
func (w *walk) bound(n api.Node, path []int) bool {
	for _, p := range node.Binds(n) {
		if _, known := w.keys[p.Key]; known {
			return false
		}
		w.keys[p.Key] = len(w.keys)
		h := hash.Of(p.Key, w.bits)
		for level, chunk := range path {
			if hash.Chunk(h, level, w.bits) != chunk {
				return false
			}
		}
	}
	return true
}
