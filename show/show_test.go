package show_test

import (
	"boscage/api"
	"boscage/hist"
	"boscage/show"
	"math"
	"slices"
	"strconv"
	"strings"
	"testing"
)

// example makes the chapter's history.
func example() []api.Event {
	swap := api.Call{Op: api.OpSwap, Key: "a\xff", Old: "b"}
	at := api.Call{Op: api.OpGetAt, Key: "k", H: 3}
	return []api.Event{
		{T: 2, C: swap}, {C: at},
		{Res: true, T: 2, C: swap, A: api.Answer{Code: api.ErrFull}},
		{Res: true, C: at, A: api.Answer{Has: true, Val: "z", N: -4}},
	}
}

const exampleText = "2 swap 61ff - 62\n0 getat 6b 3\n2 = 7 no - - 0\n0 = 0 yes - 7a -4\n"

// Promises 43.1 and 43.2: the chapter's examples.
func TestExamples(t *testing.T) {
	if s, e := show.Print(example()); s != exampleText || e != api.OK {
		t.Errorf("Print = %q, %v", s, e)
	}
	if h, e := show.Parse(exampleText); !slices.Equal(h, example()) || e != api.OK {
		t.Errorf("Parse = %v, %v", h, e)
	}
	put := api.Call{Op: api.OpPut, Key: "a", Val: "1"}
	if s, e := show.Print([]api.Event{{C: put}, {Res: true, C: put}}); s != "0 put 61 31\n0 = 0 no - - 0\n" || e != api.OK {
		t.Errorf("Print = %q, %v", s, e)
	}
	if h, e := show.Parse(""); len(h) != 0 || e != api.OK {
		t.Errorf("Parse of nothing = %v, %v", h, e)
	}
	if s, e := show.Print(nil); s != "" || e != api.OK {
		t.Errorf("Print of nothing = %q, %v", s, e)
	}
}

// Promise 43.1.
func TestWordsAndDigits(t *testing.T) {
	all := strings.Fields("get put add swap drop floor snap free getat firstat nextat sizeat sweep")
	for i, want := range all {
		if got := show.Word(i + 1); got != want {
			t.Errorf("Word(%d) = %s", i+1, got)
		}
	}
	for _, op := range []int{0, 14, -1, math.MinInt, math.MaxInt} {
		if got := show.Word(op); got != "" {
			t.Errorf("Word(%d) = %s", op, got)
		}
	}
	for s, want := range map[string]string{"": "-", "a": "61", "\x00\x0f\xf0\xff": "000ff0ff", "-": "2d", "a long string of more than sixteen bytes": "61206c6f6e6720737472696e67206f66206d6f7265207468616e207369787465656e206279746573"} {
		if got := show.Hex(s); got != want {
			t.Errorf("Hex(%q) = %s", s, got)
		}
	}
}

// Promise 43.1: errors.
func TestPrintErrors(t *testing.T) {
	snap, odd := api.Call{Op: api.OpSnap}, api.Call{Op: 99}
	loose := api.Call{Op: api.OpSnap, H: 1}
	for i, c := range []struct {
		h    []api.Event
		want api.Errno
	}{
		{[]api.Event{{T: 64, C: odd}}, api.ErrArg}, {[]api.Event{{C: odd}, {T: -1}}, api.ErrArg}, {[]api.Event{{C: odd}, {C: odd}}, api.ErrForm}, {[]api.Event{{Res: true, C: snap}}, api.ErrForm},
		{[]api.Event{{C: odd}, {T: 1, C: loose}}, api.ErrKind}, {[]api.Event{{C: loose}, {T: 1, C: odd}}, api.ErrForm}, {[]api.Event{{C: api.Call{}}}, api.ErrKind}, {[]api.Event{{C: loose}}, api.ErrForm}, {[]api.Event{{C: api.Call{Op: 99, H: 1}}}, api.ErrKind}, {[]api.Event{{C: api.Call{Op: -1}}}, api.ErrKind},
	} {
		if s, e := show.Print(c.h); s != "" || e != c.want {
			t.Errorf("case %d: %q, %v", i, s, e)
		}
	}
}

// Promise 43.2: errors.
func TestParseErrors(t *testing.T) {
	for _, s := range []string{
		"0 snap", "0 snap 1\n", "00 snap\n", "0 = 0 no - - 0\n", "0 get 6\n", "0 get 6A\n", "64 snap\n", "0 go\n", "\n", "0 snap\n\n", "\n0 snap\n",
		"-1 snap\n", "+0 snap\n", "0  snap\n", " 0 snap\n", "0 snap \n", "0\n", "snap\n", "0 \n", "0 snap\r\n", "0 SNAP\n", "0 snap\n0 snap\n", "0 get\n", "0 get -61\n", "0 get - -\n", "0 get 6g\n", "0 put 61\n", "0 free\n", "0 free 01\n", "0 free -0\n", "0 free 9223372036854775808\n", "0 free x\n",
		"0 snap\n0 = 0 no - -\n", "0 snap\n0 = 0 no - - 0 0\n", "0 snap\n0 = 0 maybe - - 0\n", "0 snap\n1 = 0 no - - 0\n", "0 snap\n0 = x no - - 0\n", "0 snap\n0 = 0 no 6 - 0\n", "0 snap\n0 = 0 no - - 00\n", "0 snap\n0 = 0 no - - 0\n0 = 0 no - - 0\n", "0 snap\n0 =\n", "99999999999999999999 snap\n", "0 = = = = = =\n",
	} {
		if h, e := show.Parse(s); len(h) != 0 || e != api.ErrText {
			t.Errorf("Parse(%q) = %v, %v", s, h, e)
		}
	}
}

// Promise 43.3.
func TestInverse(t *testing.T) {
	d := uint64(5)
	roll := func(n int) int {
		d = d*6364136223846793005 + 1442695040888963407
		return int(d>>33) % n
	}
	text := func() string { return strings.Repeat(string([]byte{byte(roll(256))}), roll(20)) }
	texts := map[string]int{}
	for round := range 200 {
		var h []api.Event
		busy := map[int]bool{}
		for range roll(30) {
			thread := roll(5) * 15
			if busy[thread] {
				h, _ = hist.End(h, thread, api.Answer{Code: api.Errno(roll(99) - 30), Has: roll(2) == 0, Key: text(), Val: text(), N: roll(1000) - 500})
			} else {
				c := api.Call{Op: 1 + roll(13)}
				switch c.Op {
				case api.OpGet, api.OpDrop, api.OpFloor:
					c.Key = text()
				case api.OpPut, api.OpAdd:
					c.Key, c.Val = text(), text()
				case api.OpSwap:
					c.Key, c.Val, c.Old = text(), text(), text()
				case api.OpFree, api.OpFirstAt, api.OpSizeAt:
					c.H = roll(9) - 4
				case api.OpGetAt, api.OpNextAt:
					c.Key, c.H = text(), math.MinInt+roll(3)
				}
				h, _ = hist.Add(h, thread, c)
			}
			busy[thread] = !busy[thread]
		}
		s, e := show.Print(h)
		back, bad := show.Parse(s)
		if e != api.OK || bad != api.OK || !slices.Equal(back, h) {
			t.Fatalf("%v: %q, %v; back %v, %v", h, s, e, back, bad)
		}
		if at, is := texts[s]; is && s != "" {
			t.Errorf("rounds %d and %d have one text", at, round)
		}
		texts[s] = round
	}
	long := "0 sweep\n0 = 0 no - - " + strconv.Itoa(math.MaxInt) + "\n"
	if h, e := show.Parse(long); e != api.OK || h[1].A.N != math.MaxInt {
		t.Errorf("Parse(%q) = %v, %v", long, h, e)
	}
}
