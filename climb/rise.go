package climb

import (
	"boscage/api"
	"boscage/branch"
	"boscage/inner"
)

// rise continues, when an NTomb was put in place, with the parent of the current NInner, to move it up there.
func (s *Climb) rise() {
	if s.put.node.Kind != api.NTomb || s.level() == 0 {
		s.quit()
		return
	}
	s.lifting = true
	s.tomb = s.put
	s.child = place{ref: s.path[s.level()]}
	s.path = s.path[:s.level()]
	s.next = s.readParent
}

// readParent reads the parent, which is the current NInner now.
func (s *Climb) readParent() (api.Answer, bool) {
	s.inner = s.read(s.path[s.level()])
	return s.then(s.readParentMain)
}

// readParentMain reads the main node of the parent, and moves the NTomb up if its NInner is still there.
func (s *Climb) readParentMain() (api.Answer, bool) {
	s.main = s.read(s.inner.node.Main)
	if branch.Child(s.main.node, s.chunk()) != s.child.ref {
		return s.then(s.leave)
	}
	p, _ := inner.Clean(s.main.ref, s.main.node, s.child.ref, s.tomb.ref, s.tomb.node, s.call.Key, s.level(), s.ground.C.Bits)
	return s.install(p, s.rise)
}

// checkRoot loads the root word; as long as it is unchanged, moving the NTomb up is tried again.
func (s *Climb) checkRoot() (api.Answer, bool) {
	w, _ := s.ground.M.Load(rootCell)
	if w == s.root {
		return s.then(s.readParent)
	}
	return s.then(s.leave)
}
