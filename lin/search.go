package lin

import (
	"boscage/api"
	"boscage/hist"
	"boscage/model"
	"slices"
	"strconv"
	"strings"
)

// What a search knows of a state.
const (
	unknown = iota
	dead
	alive
)

// search looks for linearizations. Done are the entries with a response; ahead tells for each entry which of these
// precede it, near which ones depend on it, rivals which ones may come before it so that it makes a difference. Order has
// the entries in the order of their responses. Known keeps the states that were searched, above all those from which no
// continuation exists.
type search struct {
	c         api.Config
	deeds     []deed
	all, done set
	ahead     []set
	near      []set
	rivals    []set
	order     []int
	known     map[string]int
}

// prepare makes a search.
func prepare(c api.Config, ops []hist.Op) *search {
	n := len(ops)
	s := &search{c: c, all: 1<<n - 1, done: doneOf(ops), ahead: make([]set, n), near: make([]set, n), rivals: make([]set, n), known: map[string]int{}}
	s.deeds = deedsOf(ops)
	for i := range ops {
		s.order = append(s.order, i)
	}
	slices.SortStableFunc(s.order, func(i, j int) int { return ops[i].To - ops[j].To })
	for i, a := range s.deeds {
		for j, b := range s.deeds {
			if hist.Ahead(a.Op, b.Op) {
				s.ahead[j] |= 1 << i
			}
			if i == j || !depends(a, b) {
				continue
			}
			s.near[i] |= 1 << j
			if a.changes() && !hist.Ahead(a.Op, b.Op) {
				s.rivals[i] |= 1 << j
			}
		}
	}
	return s
}

// place executes entry i in a state, if it may come behind the placed ones, and next.
func (s *search) place(placed set, state model.State, i int) (model.State, bool) {
	if !s.open(placed, i) {
		return model.State{}, false
	}
	return execute(s.c, state, s.deeds[i].Op)
}

// open reports whether entry i may come behind the placed ones.
func (s *search) open(placed set, i int) bool {
	return placed>>i&1 == 0 && s.ahead[i]&^placed == 0
}

// can reports whether the placed entries, which led to a state, can be continued to a linearization.
func (s *search) can(placed set, state model.State) bool {
	placed, state = s.advance(placed, state)
	if s.done&^placed == 0 {
		return true
	}
	if part := s.part(placed); part != s.all&^placed {
		// What does not depend on each other can be searched one part after the other, as if the rest were placed.
		return s.can(s.all&^part, state) && s.can(placed|part, state)
	}
	at := s.describe(placed, state)
	if s.known[at] != unknown {
		return s.known[at] == alive
	}
	s.known[at] = dead
	tried := map[string]int{}
	for _, i := range s.order {
		x := s.deeds[i]
		// Of deeds that do the same, the one that must be first behind all others can as well come first.
		if !s.open(placed, i) || tried[x.class] > 0 || !x.Done && !s.useful(placed, state, i) {
			continue
		}
		tried[x.class] = 1
		next, ok := s.place(placed, state, i)
		if ok && s.can(placed|1<<i, next) {
			s.known[at] = alive
			break
		}
	}
	return s.known[at] == alive
}

// advance places the entries that are permitted now and may as well come now as later: those that change nothing, and
// those without rivals.
func (s *search) advance(placed set, state model.State) (set, model.State) {
	for more := true; more; {
		more = false
		for i, x := range s.deeds {
			if !x.Done || s.rivals[i]&^placed != 0 {
				continue
			}
			if next, ok := s.place(placed, state, i); ok {
				placed, state = placed|1<<i, next
				more = true
			}
		}
	}
	return placed, state
}

// part returns the first entry that is not placed, and all others that depend on each other with it.
func (s *search) part(placed set) set {
	rest := s.all &^ placed
	part := rest & -rest
	for grown := set(0); grown != part; {
		grown = part
		for i, near := range s.near {
			if part>>i&1 == 1 {
				part |= near & rest
			}
		}
	}
	return part
}

// useful reports whether something may depend on the change that a pending entry would make now. If nothing does, it
// can be left out: so can a pending one behind it that would only replace its change.
func (s *search) useful(placed set, state model.State, i int) bool {
	x := s.deeds[i]
	if !x.writes() {
		return true
	}
	a, _ := model.Answer(s.c, state, api.Call{Op: api.OpGet, Key: x.C.Key})
	now := x.becomes(value{a.Has, a.Val})
	for j, y := range s.deeds {
		if i == j || placed>>j&1 == 1 {
			continue
		}
		same := y.touches() && y.C.Key == x.C.Key
		switch {
		case looks(y, x), same && y.Done && y.from == now:
			return true
		case same && !y.Done && y.C.Op != api.OpPut && y.C.Op != api.OpDrop && y.becomes(now) != now:
			return true
		}
	}
	return false
}

// describe writes down all that a continuation depends on.
func (s *search) describe(placed set, state model.State) string {
	var b strings.Builder
	number := func(i int) {
		b.WriteString(strconv.Itoa(i))
		b.WriteByte(' ')
	}
	binds := func(l []api.Pair) {
		number(len(l))
		for _, p := range l {
			number(len(p.Key))
			number(len(p.Val))
			b.WriteString(p.Key)
			b.WriteString(p.Val)
		}
	}
	number(int(placed))
	binds(state.L)
	for _, h := range state.H {
		number(h.Id)
		if s.isRead(placed, h.Id) {
			binds(h.L)
		}
	}
	return b.String()
}

// isRead reports whether an entry that is not placed reads the snapshot with a number.
func (s *search) isRead(placed set, id int) bool {
	for i, x := range s.deeds {
		if placed>>i&1 == 0 && x.reads(id) {
			return true
		}
	}
	return false
}
