package mail_test

import (
	"math"
	"slices"
	"testing"

	"jackstay/api"
	"jackstay/frame"
	"jackstay/mail"
	"jackstay/samples"
)

// The chapter's example.
func TestExample(t *testing.T) {
	m := made(t, 2)
	put(t, m, 1, base(5), base(3))
	if n, e := m.Put(base(1)); n != 0 || e != api.ErrFull {
		t.Errorf("a third Put is %d, error %d", n, e)
	}
	best(t, m, 2, base(3))
	start(t, m, 2)
	abort(t, m, 2, false)
	abort(t, m, 1, true)
	m.Lost()
	empty(t, m)
}

// P10.1: mails without frames.

func TestNew(t *testing.T) {
	for room := 1; room <= 256; room++ {
		empty(t, made(t, room))
	}
}

func TestNewOfWrongRoom(t *testing.T) {
	for _, room := range []int{math.MinInt, -256, -2, -1, 0, 257, 258, 512, 1<<16 + 1, 1<<32 + 1, math.MaxInt} {
		if m, e := mail.New(room); m != nil || e != api.ErrArg {
			t.Errorf("New(%d) is %v, error %d", room, m, e)
		}
	}
}

// P10.2: frames are put, and the best one is told.

// As many frames as there is room for wait, each with a number of its own.
func TestFull(t *testing.T) {
	for room := 1; room <= 256; room++ {
		m := made(t, room)
		var all []int
		for n := 1; n <= room; n++ {
			put(t, m, n, base(uint32(n*7%256)))
			all = append(all, n)
		}
		if n, e := m.Put(base(0)); n != 0 || e != api.ErrFull {
			t.Fatalf("with room for %d one more Put is %d, error %d", room, n, e)
		}
		waits(t, m, all...)
	}
}

// Room is there again when a frame waits no more, and not before; the numbers go on
// behind the last one that was put.
func TestRoomAgain(t *testing.T) {
	full := func(m *mail.Mail) {
		t.Helper()
		if n, e := m.Put(base(9)); n != 0 || e != api.ErrFull {
			t.Fatalf("Put into a full mail is %d, error %d", n, e)
		}
	}
	m := made(t, 2)
	put(t, m, 1, base(5), base(3))
	full(m)
	start(t, m, 2)
	full(m)
	m.Lost()
	full(m)
	start(t, m, 2)
	sent(t, m, 2)
	put(t, m, 3, base(4))
	full(m)
	abort(t, m, 1, true)
	put(t, m, 4, base(1))
	full(m)
	start(t, m, 4)
	abort(t, m, 4, false)
	full(m)
	m.Lost()
	put(t, m, 5, base(7))
	full(m)
	start(t, m, 3)
	abort(t, m, 3, false)
	full(m)
	sent(t, m, 3)
	put(t, m, 6, base(6))
	full(m)
	waits(t, m, 5, 6)
}

// Frames of all kinds come back as they were put.
func TestFramesComeBack(t *testing.T) {
	m := made(t, 1)
	for i, f := range samples.Right() {
		put(t, m, i+1, f)
		best(t, m, i+1, f)
		start(t, m, i+1)
		best(t, m, i+1, f)
		sent(t, m, i+1)
	}
	empty(t, m)
}

// A frame that is not right has no number, whether there is room or not.
func TestPutOfWrongFrames(t *testing.T) {
	m := made(t, 2)
	for round, f := range []api.Frame{base(5), base(4)} {
		for _, wrong := range samples.Wrong() {
			if n, e := m.Put(wrong); n != 0 || e != api.ErrFrame {
				t.Fatalf("with %d frames Put of %v is %d, error %d", round, wrong, n, e)
			}
		}
		put(t, m, round+1, f)
	}
	for _, wrong := range samples.Wrong() {
		if n, e := m.Put(wrong); n != 0 || e != api.ErrFrame {
			t.Fatalf("into a full mail Put of %v is %d, error %d", wrong, n, e)
		}
	}
	waits(t, m, 1, 2)
	best(t, m, 2, base(4))
}

// The best one has the lowest key, and of several of these the lowest number.
func TestBest(t *testing.T) {
	ext := func(id uint32) api.Frame { return api.Frame{ID: id, Ext: true} }
	remote := func(f api.Frame) api.Frame {
		f.Remote = true
		return f
	}
	for _, x := range []struct {
		l    []api.Frame
		want int
	}{
		{[]api.Frame{base(7)}, 1},
		{[]api.Frame{base(7), base(8)}, 1},
		{[]api.Frame{base(8), base(7)}, 2},
		{[]api.Frame{base(8), base(6), base(7)}, 2},
		{[]api.Frame{base(5), base(5)}, 1},
		{[]api.Frame{base(9), with(5, 2), with(5, 1), base(5)}, 2},
		{[]api.Frame{base(9), base(5), with(5, 1), with(5, 0), base(6)}, 2},
		{[]api.Frame{remote(base(5)), base(5)}, 2},
		{[]api.Frame{ext(5 << 18), remote(base(5))}, 2},
		{[]api.Frame{ext(5<<18 + 1), ext(5 << 18)}, 2},
		{[]api.Frame{remote(ext(5 << 18)), ext(5 << 18)}, 2},
		{[]api.Frame{base(6), ext(6<<18 - 1)}, 2},
		{[]api.Frame{base(0x7ff), ext(2047)}, 2},
		{[]api.Frame{base(1), ext(2047)}, 2},
		{[]api.Frame{base(0), ext(0)}, 1},
		{[]api.Frame{ext(1<<29 - 1), remote(base(0x7ff))}, 2},
		{[]api.Frame{remote(ext(1<<29 - 1)), remote(ext(1<<29 - 1))}, 1},
		{[]api.Frame{ext(1<<29 - 1), ext(1<<29 - 2), base(0x7ff), ext(0x7ff << 18), base(0x7fe)}, 5},
	} {
		m := made(t, 5)
		put(t, m, 1, x.l...)
		best(t, m, x.want, x.l[x.want-1])
		start(t, m, x.want)
		sent(t, m, x.want)
	}
}

// Of frames of one key that was put first goes first, also when those around it are
// gone.
func TestBestOfOneKey(t *testing.T) {
	m := made(t, 6)
	put(t, m, 1, base(9), with(5, 1), base(8), with(5, 2), with(5, 3), base(7))
	abort(t, m, 3, true)
	best(t, m, 2, with(5, 1))
	put(t, m, 7, with(5, 4))
	start(t, m, 2)
	m.Lost()
	best(t, m, 2, with(5, 1))
	abort(t, m, 2, true)
	best(t, m, 4, with(5, 2))
	put(t, m, 8, with(5, 5))
	for i, n := range []int{4, 5, 7, 8} {
		best(t, m, n, with(5, byte(i+2)))
		start(t, m, n)
		sent(t, m, n)
	}
	best(t, m, 6, base(7))
	waits(t, m, 1, 6)
}

// P10.3: one is on the wire, and is sent there, or lost.

func TestSent(t *testing.T) {
	m := made(t, 3)
	put(t, m, 1, base(5), base(3), base(4))
	noneOnWire(t, m)
	for _, x := range []struct {
		n    int
		left []int
	}{
		{2, []int{1, 3}},
		{3, []int{1}},
		{1, nil},
	} {
		start(t, m, x.n)
		sent(t, m, x.n)
		noneOnWire(t, m)
		waits(t, m, x.left...)
	}
	empty(t, m)
}

// The one on the wire stays there, also when a better one comes.
func TestStartAgain(t *testing.T) {
	m := made(t, 4)
	put(t, m, 1, with(5, 1))
	start(t, m, 1)
	put(t, m, 2, with(5, 2), base(3), base(0))
	for range 3 {
		start(t, m, 1)
		best(t, m, 1, with(5, 1))
		waits(t, m, 1, 2, 3, 4)
	}
	sent(t, m, 1)
	best(t, m, 4, base(0))
	start(t, m, 4)
	abort(t, m, 3, true)
	start(t, m, 4)
	waits(t, m, 2, 4)
}

// What is lost waits on, with its number, and goes behind a better one.
func TestLost(t *testing.T) {
	m := made(t, 3)
	m.Lost()
	empty(t, m)
	put(t, m, 1, with(5, 1))
	m.Lost()
	waits(t, m, 1)
	start(t, m, 1)
	put(t, m, 2, with(5, 2), base(3))
	m.Lost()
	noneOnWire(t, m)
	waits(t, m, 1, 2, 3)
	m.Lost()
	waits(t, m, 1, 2, 3)
	best(t, m, 3, base(3))
	start(t, m, 3)
	sent(t, m, 3)
	m.Lost()
	best(t, m, 1, with(5, 1))
	start(t, m, 1)
	m.Lost()
	start(t, m, 1)
	sent(t, m, 1)
	start(t, m, 2)
	sent(t, m, 2)
	empty(t, m)
}

// P10.4: frames are aborted.

func TestAbort(t *testing.T) {
	m := made(t, 4)
	put(t, m, 1, base(5), base(3), base(4), base(6))
	abort(t, m, 3, true)
	waits(t, m, 1, 2, 4)
	best(t, m, 2, base(3))
	abort(t, m, 2, true)
	best(t, m, 1, base(5))
	start(t, m, 1)
	abort(t, m, 4, true)
	waits(t, m, 1)
	best(t, m, 1, base(5))
	sent(t, m, 1)
	empty(t, m)
}

// One that is aborted on the wire waits there until it is known what becomes of it.
func TestAbortOnTheWire(t *testing.T) {
	for _, isSent := range []bool{false, true} {
		m := made(t, 3)
		put(t, m, 1, base(5), with(3, 9))
		start(t, m, 2)
		for range 3 {
			abort(t, m, 2, false)
			start(t, m, 2)
			best(t, m, 2, with(3, 9))
			waits(t, m, 1, 2)
		}
		if isSent {
			sent(t, m, 2)
		} else {
			m.Lost()
		}
		noneOnWire(t, m)
		waits(t, m, 1)
		// The mark goes with the frame: the next one on the wire is not aborted.
		start(t, m, 1)
		m.Lost()
		waits(t, m, 1)
		start(t, m, 1)
		sent(t, m, 1)
		empty(t, m)
	}
}

// What was on the wire, and is not any more, is removed at once.
func TestAbortBehindTheWire(t *testing.T) {
	m := made(t, 2)
	put(t, m, 1, base(5), base(6))
	start(t, m, 1)
	m.Lost()
	abort(t, m, 1, true)
	waits(t, m, 2)
	noneOnWire(t, m)
	start(t, m, 2)
	sent(t, m, 2)
	empty(t, m)
}

func TestAbortOfWhatDoesNotWait(t *testing.T) {
	m := made(t, 5)
	put(t, m, 1, base(5), base(3), base(4), base(6), base(7))
	start(t, m, 2)
	sent(t, m, 2)
	abort(t, m, 3, true)
	start(t, m, 1)
	abort(t, m, 1, false)
	m.Lost()
	start(t, m, 4)
	for _, n := range []int{math.MinInt, -4, -1, 0, 1, 2, 3, 6, 7, 256, 1<<32 + 4, math.MaxInt} {
		if gone, e := m.Abort(n); gone || e != api.ErrMail {
			t.Errorf("Abort(%d) is %v, error %d", n, gone, e)
		}
		if m.Waits(n) {
			t.Errorf("%d waits", n)
		}
	}
	waits(t, m, 4, 5)
	sent(t, m, 4)
	waits(t, m, 5)
}

// P10.5: what is put is sent in the order of keys, and in that in which it was put, for
// frames of one key; also if it is lost on the way.
func TestOrder(t *testing.T) {
	for step := 1; step < 40; step += 2 {
		m := made(t, 256)
		all := samples.Right()
		l := make([]api.Frame, 256)
		var numbers []int
		for i := range l {
			l[i] = all[i*step%len(all)]
			numbers = append(numbers, i+1)
		}
		put(t, m, 1, l...)
		slices.SortStableFunc(numbers, func(a, b int) int {
			switch {
			case frame.Before(l[a-1], l[b-1]):
				return -1
			case frame.Before(l[b-1], l[a-1]):
				return 1
			}
			return 0
		})
		for i, n := range numbers {
			for range i % 3 {
				start(t, m, n)
				m.Lost()
			}
			best(t, m, n, l[n-1])
			start(t, m, n)
			sent(t, m, n)
		}
		empty(t, m)
	}
}
