package hand

import (
	"boscage/api"
	"boscage/limbo"
	"boscage/node"
	"boscage/word"
)

// loadEpoch loads the epoch that the note is to have.
func (h *Hand) loadEpoch() (api.Answer, bool) {
	w, _ := h.ground.M.Load(epochCell)
	h.epoch = w.Tag
	return h.then(h.storeNote)
}

// storeNote announces that the operation needs nodes from now on.
func (h *Hand) storeNote() (api.Answer, bool) {
	w, _ := word.Note(h.epoch, -1)
	h.ground.M.Store(h.noteCell(), w)
	if h.ground.C.Kind == api.Ctrie {
		return h.try()
	}
	return h.then(h.loadRoot)
}

// loadRoot loads the root word that is to be held.
func (h *Hand) loadRoot() (api.Answer, bool) {
	h.root, _ = h.ground.M.Load(rootCell)
	return h.try()
}

// try goes on with the handle, if there is one left.
func (h *Hand) try() (api.Answer, bool) {
	if h.handle == h.ground.C.Handles {
		return h.fail(api.ErrFull)
	}
	return h.then(h.loadHandle)
}

// pass goes on with the handle after this one.
func (h *Hand) pass() (api.Answer, bool) {
	h.handle++
	return h.try()
}

// loadHandle loads the word of a handle, to see whether it is Open.
func (h *Hand) loadHandle() (api.Answer, bool) {
	h.held, _ = h.ground.M.Load(h.cell())
	kind, _ := word.Kind(h.held)
	id, code := word.Next(h.held, h.ground.C.Handles)
	if kind != word.Open || code != api.OK {
		return h.pass()
	}
	h.id = id
	return h.then(h.claim)
}

// claim takes the Open handle: a Ctrie's root must be replaced before it can be held.
func (h *Hand) claim() (api.Answer, bool) {
	kind, next := word.Held, stage(h.leave)
	if h.ground.C.Kind == api.Ctrie {
		kind, next = word.Kept, h.loadTop
	}
	put, _ := word.Handle(kind, h.id, h.root.Ref, h.root.Tag)
	if ok, _ := h.ground.M.Cas(h.cell(), h.held, put); !ok {
		return h.pass()
	}
	h.answer = api.Answer{N: h.id}
	return h.then(next)
}

// loadTop loads the root word that is to be replaced.
func (h *Hand) loadTop() (api.Answer, bool) {
	h.root, _ = h.ground.M.Load(rootCell)
	return h.then(h.readTop)
}

// readTop reads the NInner of the root.
func (h *Hand) readTop() (api.Answer, bool) {
	h.top, _ = h.ground.M.Read(h.root.Ref)
	return h.then(h.takeTop)
}

// takeTop allocates the NInner of the next generation.
func (h *Hand) takeTop() (api.Answer, bool) {
	n := node.Inner(h.top.Main)
	n.Birth = h.root.Tag + 1
	r, code := h.ground.M.Take(n)
	if code != api.OK {
		return h.then(h.reopen)
	}
	h.fresh = r
	return h.then(h.turn)
}

// reopen gives the handle back, since no slot is free.
func (h *Hand) reopen() (api.Answer, bool) {
	open, _ := word.Handle(word.Open, h.id, 0, 0)
	h.ground.M.Store(h.cell(), open)
	return h.fail(api.ErrFull)
}

// turn begins the next generation, if the root is as it was read.
func (h *Hand) turn() (api.Answer, bool) {
	put, _ := word.Root(h.fresh, h.root.Tag+1)
	if ok, _ := h.ground.M.Turn(rootCell, h.root, put, h.root.Ref, h.top.Main); !ok {
		return h.then(h.freeTop)
	}
	return h.then(h.hold)
}

// freeTop frees the NInner that came too late.
func (h *Hand) freeTop() (api.Answer, bool) {
	h.ground.M.Free(h.fresh)
	return h.then(h.loadTop)
}

// hold stores the previous root in the handle.
func (h *Hand) hold() (api.Answer, bool) {
	w, _ := word.Handle(word.Held, h.id, h.root.Ref, h.root.Tag)
	h.ground.M.Store(h.cell(), w)
	return h.then(h.loadStamp)
}

// loadStamp loads the epoch in which the previous root is retired.
func (h *Hand) loadStamp() (api.Answer, bool) {
	w, _ := h.ground.M.Load(epochCell)
	h.epoch = w.Tag
	return h.then(h.retire)
}

// retire pushes the previous root to the list of the thread.
func (h *Hand) retire() (api.Answer, bool) {
	h.ground.X.Push(h.thread, limbo.Group{
		Stamp: h.epoch,
		Death: h.root.Tag + 1,
		L:     []limbo.Item{{Ref: h.root.Ref, Birth: h.top.Birth}},
	})
	return h.then(h.leave)
}
