package hand

import (
	"boscage/api"
	"boscage/find"
	"boscage/path"
	"boscage/seek"
	"boscage/word"
)

// reader requests references, receives the nodes stored there, and tells the answer at the end.
type reader interface {
	Want() api.Ref
	Feed(n api.Node)
	answer() api.Answer
}

// lookup is a reader of the value of a key.
type lookup struct{ *find.Find }

func (l lookup) answer() api.Answer {
	val, has := l.Answer()
	return api.Answer{Has: has, Val: val}
}

// search is a reader of a binding, in a trie.
type search struct{ *seek.Seek }

func (s search) answer() api.Answer {
	p, has := s.Answer()
	return api.Answer{Has: has, Key: p.Key, Val: p.Val}
}

// descent is a reader of a binding, in a tree; an OpGetAt knows its key already.
type descent struct {
	*path.Path
	known bool
}

func (d descent) answer() api.Answer {
	p, has := d.Answer()
	if d.known {
		p.Key = ""
	}
	return api.Answer{Has: has, Key: p.Key, Val: p.Val}
}

// count is a reader of the number of bindings, in a trie.
type count struct{ *seek.Sum }

func (c count) answer() api.Answer {
	return api.Answer{N: c.Answer()}
}

// measure is a reader of the Size of a tree's root.
type measure struct {
	root api.Ref
	size int
}

func (m *measure) Want() api.Ref      { return m.root }
func (m *measure) Feed(n api.Node)    { m.root, m.size = 0, n.Size }
func (m *measure) answer() api.Answer { return api.Answer{N: m.size} }

// storeVersion announces the version that is to be read.
func (h *Hand) storeVersion() (api.Answer, bool) {
	w, _ := word.Note(0, h.held.Tag)
	h.ground.M.Store(h.noteCell(), w)
	return h.then(h.checkHeld)
}

// checkHeld loads the handle's word again: only what was still held when the note was stored is safe to read.
func (h *Hand) checkHeld() (api.Answer, bool) {
	if w, _ := h.ground.M.Load(h.cell()); w != h.held {
		return h.fail(api.ErrHandle)
	}
	h.reader = h.open()
	return h.proceed()
}

// open chooses the reader for the operation.
func (h *Hand) open() reader {
	root, key, bits := h.held.Ref, h.call.Key, h.ground.C.Bits
	treap := h.ground.C.Kind == api.Treap
	switch h.call.Op {
	case api.OpGetAt:
		if treap {
			return descent{path.New(root, path.Get, key), true}
		}
		return lookup{find.New(root, key, bits)}
	case api.OpFirstAt:
		if treap {
			return descent{path.New(root, path.First, key), false}
		}
		return search{seek.First(root)}
	case api.OpNextAt:
		if treap {
			return descent{path.New(root, path.After, key), false}
		}
		return search{seek.New(root, key, bits)}
	}
	if treap {
		return &measure{root: root}
	}
	return count{seek.Count(root)}
}

// proceed reads on as long as the reader requests something.
func (h *Hand) proceed() (api.Answer, bool) {
	if h.reader.Want() != 0 {
		return h.then(h.read)
	}
	h.answer = h.reader.answer()
	return h.then(h.leave)
}

// read reads one node for the reader.
func (h *Hand) read() (api.Answer, bool) {
	n, _ := h.ground.M.Read(h.reader.Want())
	h.reader.Feed(n)
	return h.proceed()
}
