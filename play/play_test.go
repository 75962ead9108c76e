package play_test

import (
	"boscage/api"
	"boscage/lin"
	"boscage/play"
	"boscage/script"
	"boscage/show"
	"boscage/stat"
	"boscage/world"
	"math"
	"slices"
	"testing"
)

// game makes a game of a head and entries.
func game(t *testing.T, head []byte, l ...api.Entry) []byte {
	t.Helper()
	b, e := script.Encode(l)
	if e != api.OK {
		t.Fatal(e)
	}
	return append(slices.Clone(head), b...)
}

func same(a, b play.Outcome) bool {
	return a.C == b.C && slices.Equal(a.H, b.H) && slices.Equal(a.Map, b.Map) && a.Used == b.Used && a.Open == b.Open && a.Steps == b.Steps && a.Faults == b.Faults && a.Share == b.Share
}

// Promise 44.1.
func TestConfig(t *testing.T) {
	for _, c := range []struct {
		b    []byte
		want api.Config
		rest []byte
	}{
		{[]byte{4, 10, 66, 18, 70, 9, 8}, api.Config{Kind: 2, Slots: 32, Threads: 3, Handles: 1, Bits: 7}, []byte{9, 8}},
		{[]byte{2}, api.Config{Kind: 3, Slots: 2, Threads: 1, Bits: 1}, nil},
		{nil, api.Config{Kind: 1, Slots: 2, Threads: 1, Bits: 1}, nil},
		{[]byte{255, 255, 255, 255, 255}, api.Config{Kind: 1, Slots: 767, Threads: 64, Handles: 0, Bits: 64}, nil},
		{[]byte{0, 0, 63, 16, 63, 0}, api.Config{Kind: 1, Slots: 2, Threads: 64, Handles: 16, Bits: 64}, []byte{0}},
		{[]byte{1, 0, 64, 17, 64, 1, 2, 3}, api.Config{Kind: 2, Slots: 2, Threads: 1, Bits: 1}, []byte{1, 2, 3}},
	} {
		before := slices.Clone(c.b)
		got, rest := play.Config(c.b)
		if got != c.want || !slices.Equal(rest, c.rest) {
			t.Errorf("Config(%v) = %v, %v", c.b, got, rest)
		}
		for i := range rest {
			rest[i] = 77
		}
		if !slices.Equal(c.b, before) {
			t.Errorf("Config(%v) shares memory", before)
		}
	}
}

// Promises 44.1 and 44.2: the chapter's examples.
func TestExample(t *testing.T) {
	put := api.Entry{C: api.Call{Op: api.OpPut, Key: "a", Val: "x"}}
	l := append(slices.Repeat([]api.Entry{put}, 9), api.Entry{C: api.Call{Op: api.OpSnap}})
	o := play.Run(game(t, []byte{1, 3, 0, 1, 3}, l...))
	want := "0 put 61 78\n0 = 0 no - - 0\n0 snap\nused 1 of 11\nshare bfb745d1745d1746\nopen 1\nbind 61 78\n"
	if text, e := play.Text(o); text != want || e != api.OK || o.Steps != 8 || o.Faults != 0 || o.Used != 1 || o.Open != 1 || o.Share != 1.0/11 {
		t.Errorf("%q, %v, %d steps", text, e, o.Steps)
	}
	empty := play.Run(nil)
	if empty.C != (api.Config{Kind: api.Hamt, Slots: 2, Threads: 1, Bits: 1}) || empty.Share != 0 || len(empty.H)+len(empty.Map)+empty.Used+empty.Open+empty.Steps != 0 {
		t.Errorf("the empty game: %v", empty)
	}
	ctrie := play.Run([]byte{2, 1})
	if text, _ := play.Text(ctrie); text != "used 2 of 5\nshare "+stat.Text(0.4)+"\nopen 0\n" {
		t.Errorf("an empty Ctrie: %q", text)
	}
}

// Promise 44.2.
func TestText(t *testing.T) {
	for _, c := range []struct {
		h    []api.Event
		want api.Errno
	}{{[]api.Event{{Res: true}}, api.ErrForm}, {[]api.Event{{T: 64}}, api.ErrArg}, {[]api.Event{{C: api.Call{Op: 14}}}, api.ErrKind}, {[]api.Event{{C: api.Call{Op: api.OpSnap, H: 1}}}, api.ErrForm}} {
		if s, e := play.Text(play.Outcome{H: c.h}); s != "" || e != c.want {
			t.Errorf("Text of %v = %q, %v", c.h, s, e)
		}
	}
	o := play.Outcome{C: api.Config{Slots: -3}, Used: -1, Open: 7, Share: math.NaN(), Map: []api.Pair{{Key: "b", Val: ""}, {Key: "", Val: "a"}}}
	if s, e := play.Text(o); s != "used -1 of -3\nshare fff8000000000001\nopen 7\nbind 62 -\nbind - 61\n" || e != api.OK {
		t.Errorf("Text = %q, %v", s, e)
	}
}

// Promise 44.3, and the document's T1, T3 and T8.
func TestGames(t *testing.T) {
	d := uint64(11)
	roll := func(n int) int {
		d = d*6364136223846793005 + 1442695040888963407
		return int(d>>33) % n
	}
	for range 300 {
		head := []byte{byte(roll(256)), byte(roll(60)), byte(roll(6)), byte(roll(4)), byte(roll(256))}
		var l []api.Entry
		for range roll(400) {
			c := api.Call{Op: roll(14), Key: string(rune('a' + roll(3))), Val: string(rune('x' + roll(2)))}
			e := api.Entry{T: roll(7), C: c}
			switch {
			case c.Op == 0 || c.Op == api.OpSnap || c.Op == api.OpSweep:
				e.C = api.Call{Op: c.Op}
			case c.Op == api.OpGet || c.Op == api.OpDrop || c.Op == api.OpFloor:
				e.C.Val = ""
			case c.Op >= api.OpFree:
				e.C = api.Call{Op: c.Op, H: roll(3)}
			}
			l = append(l, e)
		}
		b := game(t, head, l...)
		before := slices.Clone(b)
		o := play.Run(b)
		text, e := play.Text(o)
		if !same(o, play.Run(b)) || !slices.Equal(b, before) || e != api.OK || o.Faults != 0 || o.Share < 0 || o.Share > 1 {
			t.Fatalf("game %v: %v, %v", b, o, e)
		}
		if h, e := show.Parse(text[:len(text)-len(tail(o))]); e != api.OK || !slices.Equal(h, o.H) {
			t.Errorf("game %v: the history %v, %v", b, h, e)
		}
		if _, ok, e := lin.Check(o.C, o.H); e == api.OK && !ok {
			t.Errorf("game %v: not linearizable: %v", b, o.H)
		}
		c, _ := play.Config(b)
		w, _ := world.New(c)
		w.Play(l)
		if w.Most() > 1 || !slices.Equal(w.History(), o.H) || w.Ground().Steps() != o.Steps || len(w.Pending()) != o.Open {
			t.Errorf("game %v: a world plays otherwise", b)
		}
	}
	noise := make([]byte, 30000)
	for i := range noise {
		noise[i] = byte(roll(256))
	}
	noise[2] = 3
	if o := play.Run(noise); o.Faults != 0 {
		t.Errorf("%d faults", o.Faults)
	}
}

// tail returns what follows the history in the text of an outcome.
func tail(o play.Outcome) string {
	o.H = nil
	s, _ := play.Text(o)
	return s
}
