package lin

import (
	"boscage/api"
	"boscage/call"
	"boscage/hist"
	"strconv"
)

// value is what a key is bound to, if it is bound.
type value struct {
	has bool
	val string
}

// deed is an entry with what it does: from tells what its key must be bound to before, to what it is bound to after.
// Class is the same for deeds that do the same in any state. All tells that a deed sees all bindings; otherwise keys has
// those that a snapshot shows later.
type deed struct {
	hist.Op
	from, to value
	class    string
	all      bool
	keys     map[string]int
}

// deedsOf returns the deeds of the entries.
func deedsOf(ops []hist.Op) []deed {
	var l []deed
	for i, x := range ops {
		l = append(l, deedOf(x, i))
	}
	for i := range l {
		l[i].all = l[i].Done && l[i].C.Op == api.OpFloor
		if l[i].snaps() {
			l[i].show(l)
		}
	}
	return l
}

// show finds out what is read of a snapshot.
func (d *deed) show(l []deed) {
	d.keys = map[string]int{}
	for _, x := range l {
		switch {
		case !x.reads(d.handle()):
		case x.C.Op == api.OpGetAt:
			d.keys[x.C.Key] = 1
		default:
			d.all = true
		}
	}
}

// reads reports whether the deed reads the snapshot with a number.
func (d deed) reads(id int) bool {
	return d.Done && d.C.Op >= api.OpGetAt && d.C.Op <= api.OpSizeAt && d.C.H == id
}

// deedOf returns the deed of an entry; i tells it from others.
func deedOf(x hist.Op, i int) deed {
	d := deed{Op: x, class: strconv.Itoa(i)}
	d.from = value{x.A.Has, x.A.Val}
	d.to = d.becomes(d.from)
	c := call.Plain(x.C)
	switch {
	case d.writes() && x.Done:
		d.class = strconv.Quote(c.Key) + d.from.text() + d.to.text()
	case d.writes():
		d.class = strconv.Itoa(c.Op) + strconv.Quote(c.Key) + strconv.Quote(c.Val) + strconv.Quote(c.Old)
	}
	return d
}

// text writes down a value.
func (v value) text() string {
	return strconv.FormatBool(v.has) + strconv.Quote(v.val)
}

// becomes returns what the key is bound to after the operation, if it is bound to v before.
func (d deed) becomes(v value) value {
	x := d.C
	switch {
	case x.Op == api.OpPut, x.Op == api.OpAdd && !v.has, x.Op == api.OpSwap && v.has && v.val == x.Old:
		return value{true, x.Val}
	case x.Op == api.OpDrop:
		return value{}
	}
	return v
}

// touches reports whether the deed depends on what its key is bound to; without slots an operation does not.
func (d deed) touches() bool {
	return d.C.Op >= api.OpGet && d.C.Op <= api.OpDrop && !(d.Done && d.A.Code == api.ErrFull)
}

// writes reports whether the deed may change what its key is bound to.
func (d deed) writes() bool {
	if d.Done {
		return d.touches() && d.from != d.to
	}
	return d.touches() && d.C.Op != api.OpGet
}

// snaps reports whether the deed takes a snapshot.
func (d deed) snaps() bool {
	return d.Done && d.C.Op == api.OpSnap && d.A.Code == api.OK
}

// frees reports whether the deed releases a snapshot.
func (d deed) frees() bool {
	return d.C.Op == api.OpFree && !(d.Done && d.A.Code != api.OK)
}

// changes reports whether the deed may change a state; whether it does is the same in any state in which it is permitted.
func (d deed) changes() bool {
	return d.writes() || d.snaps() || d.frees()
}

// handle returns the number of the snapshot that the deed takes, reads or releases, or -1.
func (d deed) handle() int {
	switch {
	case d.snaps():
		return d.A.N
	case call.Held(d.C.Op):
		return d.C.H
	}
	return -1
}

// depends reports whether it may make a difference which of two deeds comes first.
func depends(a, b deed) bool {
	if a.handle() >= 0 && a.handle() == b.handle() {
		return true
	}
	return a.touches() && b.touches() && a.C.Key == b.C.Key || looks(a, b) || looks(b, a)
}

// looks reports whether a sees a binding that b changes.
func looks(a, b deed) bool {
	return b.writes() && (a.all || a.keys[b.C.Key] > 0)
}
