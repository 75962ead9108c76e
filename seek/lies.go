package seek

import (
	"boscage/api"
	"boscage/hash"
	"boscage/heap"
	"boscage/mask"
	"boscage/node"
)

// Lies reports whether h is valid and r is well-formed at level 0.
func Lies(h []api.Node, r api.Ref, bits int) bool {
	if _, code := heap.Count(h, r); code != api.OK {
		return false
	}
	w := &walk{h: h, bits: bits}
	return r == 0 || w.lies(r, nil)
}

// walk visits the nodes below a reference, and counts the bindings. It ends soon where there is more than one way to a
// node: below that is no binding, or one whose hash has other chunks than one of the ways.
type walk struct {
	h     []api.Node
	bits  int
	count int
}

// lies reports whether r is well-formed at the end of a path of chunks.
func (w *walk) lies(r api.Ref, path []int) bool {
	n := w.h[r-1]
	for n.Kind == api.NInner {
		n = w.h[n.Main-1]
	}
	switch n.Kind {
	case api.NLeaf, api.NTomb:
		return w.bound(n, path)
	case api.NBucket:
		return len(path) >= hash.Levels(w.bits) && w.bound(n, path)
	case api.NBranch:
		return len(path) < hash.Levels(w.bits) && w.branch(n, path)
	}
	return false
}

// branch reports whether a branch is well-formed: with a binding below each child, and the right Size.
func (w *walk) branch(n api.Node, path []int) bool {
	before := w.count
	for i, chunk := range mask.All(n.Map) {
		had := w.count
		if !w.lies(n.Kids[i], append(path, chunk)) || w.count == had {
			return false
		}
	}
	return n.Size == 0 || n.Size == w.count-before
}

// bound reports whether the hashes of a node's keys have the chunks of the path. So no key comes twice.
func (w *walk) bound(n api.Node, path []int) bool {
	for _, p := range node.Binds(n) {
		w.count++
		h := hash.Of(p.Key, w.bits)
		for level, chunk := range path {
			if hash.Chunk(h, level, w.bits) != chunk {
				return false
			}
		}
	}
	return true
}
