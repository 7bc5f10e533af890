package drv_test

import (
	"math"
	"slices"
	"testing"

	"jackstay/api"
	"jackstay/drv"
	"jackstay/samples"
)

// The chapter's example.
func TestExample(t *testing.T) {
	for _, withAbort := range []bool{false, true} {
		d, b := begun(t, 20, base(5), base(3))
		if withAbort {
			abort(t, d, 1, true)
			abort(t, d, 2, false)
		}
		b.quiet()
		three, five := samples.OnBus(base(3)), samples.OnBus(base(5))
		want := many("-", len(three)-1) + "s---"
		takes := many("-", len(three)-2) + "t----"
		numbers, sent := []int{2}, []api.Frame{base(3)}
		if !withAbort {
			want += many("-", len(five)-1) + "s---"
			takes += many("-", len(five)-2) + "t----"
			numbers, sent = []int{2, 1}, []api.Frame{base(3), base(5)}
		}
		b.whole(sent...)
		if b.told[0] != want || b.told[1] != takes {
			t.Errorf("they are told\n%q and\n%q, not\n%q and\n%q", b.told[0], b.told[1], want, takes)
		}
		if !slices.Equal(b.numbers[0], numbers) || !samples.Are(b.sent[0], sent...) || !samples.Are(b.taken[1], sent...) {
			t.Errorf("sent is %v, %v, and taken %v", b.numbers[0], b.sent[0], b.taken[1])
		}
	}
}

// P14.1: drivers that nothing has happened to.

// right are so many right filters: each of them accepts one base frame.
func right(many int) []api.Filter {
	var l []api.Filter
	for i := range many {
		l = append(l, one(uint32(100+i)))
	}
	return l
}

// fresh holds a driver to be as New returned it.
func fresh(t *testing.T, d *drv.Drv) {
	t.Helper()
	if c := d.Ctl(); !samples.SameCtl(c, api.Ctl{}) || !d.Drive() {
		t.Fatalf("the controller is %+v, and drives %v", c, d.Drive())
	}
	if now := d.Now(); now != 0 {
		t.Fatalf("the time is %d", now)
	}
	waits(t, d)
	readsNone(t, d)
	flag(t, d, false)
	cleared(t, d, false)
}

func TestNew(t *testing.T) {
	for many := range 65 {
		fresh(t, made(t, right(many), 1+many, 256-many))
	}
	for _, mails := range []int{1, 2, 3, 128, 255, 256} {
		for _, room := range []int{1, 2, 3, 128, 255, 256} {
			fresh(t, made(t, nil, mails, room))
			fresh(t, made(t, right(64), mails, room))
		}
	}
}

// wrongRooms are some that a mail, or a fifo, may not have.
func wrongRooms() []int {
	return []int{math.MinInt, -256, -2, -1, 0, 257, 258, 512, 1<<16 + 1, 1<<32 + 1, math.MaxInt}
}

func TestNewWithWrongRoom(t *testing.T) {
	for _, filters := range [][]api.Filter{nil, right(1), right(64)} {
		for _, wrong := range wrongRooms() {
			for _, ok := range []int{1, 2, 255, 256} {
				notMade(t, filters, wrong, ok)
				notMade(t, filters, ok, wrong)
			}
			for _, other := range wrongRooms() {
				notMade(t, filters, wrong, other)
			}
		}
	}
}

// notMade holds New to be ErrArg.
func notMade(t *testing.T, filters []api.Filter, mails, room int) {
	t.Helper()
	if d, e := drv.New(filters, mails, room); d != nil || e != api.ErrArg {
		t.Fatalf("New(%v, %d, %d) is %v, error %d", filters, mails, room, d, e)
	}
}

func TestNewWithTooManyFilters(t *testing.T) {
	for _, many := range []int{65, 66, 100, 128, 256, 1 << 16} {
		notMade(t, right(many), 1, 1)
		notMade(t, slices.Repeat(right(1), many), 256, 256)
		notMade(t, make([]api.Filter, many), 1, 256)
		notMade(t, right(many), 0, 257)
	}
}

// A filter that is not right is found wherever it is.
func TestNewWithWrongFilters(t *testing.T) {
	for _, wrong := range samples.WrongFilters() {
		for _, many := range []int{1, 2, 3, 7, 63, 64} {
			for at := range many {
				l := right(many)
				l[at] = wrong
				notMade(t, l, 1, 1)
				if at > 0 {
					l[0] = api.Filter{}
					notMade(t, l, 256, 256)
				}
			}
		}
		notMade(t, append(right(64), wrong), 2, 2)
	}
	notMade(t, samples.WrongFilters(), 2, 2)
}

// P14.2: frames are sent.

// As many wait as there is room for, each with a number of its own; a wrong one has none,
// and is told ahead of the missing room.
func TestSend(t *testing.T) {
	for _, room := range []int{1, 2, 3, 16, 255, 256} {
		d := made(t, nil, room, 1)
		var all []int
		for n := 1; n <= room; n++ {
			refuses(t, d, base(1<<11), api.ErrFrame)
			send(t, d, n, base(uint32(n*7%256)))
			all = append(all, n)
		}
		refuses(t, d, base(0), api.ErrFull)
		for _, f := range samples.Wrong() {
			refuses(t, d, f, api.ErrFrame)
		}
		waits(t, d, all...)
	}
}

// There is room again when a frame is sent, or aborted; the numbers go on.
func TestRoomAgain(t *testing.T) {
	d := made(t, nil, 2, 1)
	b := newBus(t, d, open(t))
	send(t, d, 1, base(5), base(6))
	refuses(t, d, base(7), api.ErrFull)
	abort(t, d, 2, true)
	send(t, d, 3, base(7))
	b.steps(20)
	refuses(t, d, base(8), api.ErrFull)
	abort(t, d, 1, false)
	refuses(t, d, base(8), api.ErrFull)
	b.quiet()
	hasNone(t, d)
	send(t, d, 4, base(8), base(9))
	refuses(t, d, base(1), api.ErrFull)
	waits(t, d, 4, 5)
	b.quiet()
	if !slices.Equal(b.numbers[0], []int{1, 3, 4, 5}) {
		t.Errorf("sent are %v", b.numbers[0])
	}
}

// Whenever it is not sending, the controller has the best frame of those that wait.
func TestFedBySend(t *testing.T) {
	d := open(t)
	send(t, d, 1, with(5, 1))
	has(t, d, with(5, 1))
	for i, x := range []struct{ f, best api.Frame }{
		{with(7, 2), with(5, 1)},
		{with(5, 3), with(5, 1)},
		{with(4, 4), with(4, 4)},
		{with(4, 5), with(4, 4)},
		{api.Frame{ID: 3, Remote: true}, api.Frame{ID: 3, Remote: true}},
		{api.Frame{ID: 3 << 18, Ext: true}, api.Frame{ID: 3, Remote: true}},
		{with(3, 6), with(3, 6)},
		{api.Frame{ID: 2<<18 + 9, Ext: true}, api.Frame{ID: 2<<18 + 9, Ext: true}},
		{base(0x7ff), api.Frame{ID: 2<<18 + 9, Ext: true}},
		{base(0), base(0)},
	} {
		refuses(t, d, base(1<<11), api.ErrFrame)
		send(t, d, i+2, x.f)
		has(t, d, x.best)
		if d.Drive() {
			t.Errorf("with %v it drives recessive", x.best)
		}
	}
	waits(t, d, 1, 2, 3, 4, 5, 6, 7, 8, 9, 10, 11)
	b := newBus(t, d, open(t))
	b.quiet()
	if want := []int{11, 9, 8, 6, 7, 4, 5, 1, 3, 2, 10}; !slices.Equal(b.numbers[0], want) {
		t.Errorf("sent are %v, not %v", b.numbers[0], want)
	}
}

// A better frame that comes while one is on the bus waits until that is sent, at whatever
// bit it comes; behind it it goes first.
func TestBetterFramesComeOnTheBus(t *testing.T) {
	long := len(samples.OnBus(base(5)))
	for k := 1; k < long; k++ {
		d, b := begun(t, k, base(5), base(9))
		for i, id := range []uint32{3, 2, 6} {
			send(t, d, 3+i, base(id))
			sends(t, d, base(5))
		}
		b.steps(long - k)
		has(t, d, base(2))
		b.quiet()
		b.whole(base(5), base(2), base(3), base(6), base(9))
		if !slices.Equal(b.numbers[0], []int{1, 4, 3, 5, 2}) {
			t.Fatalf("at bit %d come better ones: sent are %v", k, b.numbers[0])
		}
	}
}

// One that comes while one waits for the bus takes its place: while it is idle, while
// another one's frame is on it, and between frames.
func TestBetterFramesComeBehindOthers(t *testing.T) {
	long := len(samples.OnBus(base(1)))
	for k := range long + 3 {
		other, d := open(t), open(t)
		b := newBus(t, d, other)
		send(t, other, 1, base(1))
		send(t, d, 1, base(5))
		b.steps(k)
		send(t, d, 2, base(6), base(3))
		if k == 0 || k > 12 {
			has(t, d, base(3))
		}
		if k == long+2 {
			send(t, other, 2, base(4))
		}
		b.quiet()
		if k == long+2 {
			b.whole(base(1), base(3), base(4), base(5), base(6))
		} else {
			b.whole(base(1), base(3), base(5), base(6))
		}
		if !slices.Equal(b.numbers[0], []int{3, 1, 2}) {
			t.Fatalf("at bit %d come others: sent are %v", k, b.numbers[0])
		}
	}
}

// P14.2: frames are aborted.

// Those that wait are removed at once, also the one that is given, and not sent: the next
// one is given then.
func TestAbort(t *testing.T) {
	d := open(t)
	send(t, d, 1, base(5), base(3), base(4), base(6), base(3))
	abort(t, d, 3, true)
	waits(t, d, 1, 2, 4, 5)
	has(t, d, base(3))
	abort(t, d, 2, true)
	has(t, d, base(3))
	waits(t, d, 1, 4, 5)
	abort(t, d, 5, true)
	has(t, d, base(5))
	abort(t, d, 4, true)
	has(t, d, base(5))
	send(t, d, 6, base(7))
	abort(t, d, 1, true)
	has(t, d, base(7))
	abort(t, d, 6, true)
	hasNone(t, d)
	b := newBus(t, d, open(t))
	b.steps(200)
	b.quiet()
	if b.row != many("r", 200) || d.Now() != 200 {
		t.Errorf("when all are aborted on the bus is %q", b.row)
	}
}

// On the bus a frame waits until its end, and is sent; at whatever bit it is aborted,
// and however often.
func TestAbortOnTheBus(t *testing.T) {
	long := len(samples.OnBus(base(3)))
	for k := 1; k < long; k++ {
		d, b := begun(t, k, base(5), base(3))
		for range 3 {
			abort(t, d, 2, false)
			sends(t, d, base(3))
			waits(t, d, 1, 2)
		}
		b.steps(long - k)
		waits(t, d, 1)
		has(t, d, base(5))
		noMail(t, d, 2)
		b.quiet()
		b.whole(base(3), base(5))
		if !slices.Equal(b.numbers[0], []int{2, 1}) {
			t.Fatalf("with an abort at bit %d sent are %v", k, b.numbers[0])
		}
	}
}

// Others are removed at once while one is on the bus.
func TestAbortBesideTheBus(t *testing.T) {
	long := len(samples.OnBus(base(3)))
	for k := 1; k < long; k++ {
		d, b := begun(t, k, base(5), base(3), base(4))
		send(t, d, 4, base(1))
		abort(t, d, 1, true)
		abort(t, d, 4, true)
		sends(t, d, base(3))
		waits(t, d, 2, 3)
		b.quiet()
		b.whole(base(3), base(4))
	}
}

// A frame that is aborted on the bus, and disturbed there, is gone; another one goes.
func TestAbortAndDisturb(t *testing.T) {
	long := len(samples.OnBus(base(3)))
	for k := 1; k < long; k++ {
		for at := k; at < long; at++ {
			d, b := begun(t, k, base(5), base(3))
			abort(t, d, 2, false)
			b.steps(at - k)
			b.step(0)
			if slices.Contains(b.numbers[0], 2) || d.Ctl().Sends {
				continue // that bit did not matter
			}
			waits(t, d, 1)
			has(t, d, base(5))
			noMail(t, d, 2)
			b.quiet()
			if !slices.Equal(b.numbers[0], []int{1}) || !samples.Are(b.sent[0], base(5)) {
				t.Fatalf("aborted at bit %d, disturbed at %d: sent are %v", k, at, b.numbers[0])
			}
		}
	}
}

// One that is aborted on the bus, and loses the arbitration, is gone, too.
func TestAbortAndLose(t *testing.T) {
	d, other := open(t), open(t)
	b := newBus(t, d, other)
	send(t, d, 1, base(5), base(9))
	send(t, other, 1, base(4))
	b.steps(5)
	sends(t, d, base(5))
	abort(t, d, 1, false)
	for d.Ctl().Sends {
		waits(t, d, 1, 2)
		b.step()
	}
	waits(t, d, 2)
	has(t, d, base(9))
	b.quiet()
	b.whole(base(4), base(9))
}

func TestAbortOfWhatDoesNotWait(t *testing.T) {
	d := open(t)
	b := newBus(t, d, open(t))
	noMail(t, d, math.MinInt, -1, 0, 1, 2, math.MaxInt)
	send(t, d, 1, base(5), base(3), base(4), base(6), base(7))
	abort(t, d, 3, true)
	b.steps(len(samples.OnBus(base(3))))
	none := []int{math.MinInt, -4, -1, 0, 2, 3, 6, 7, 256, 1<<32 + 4, math.MaxInt}
	noMail(t, d, none...)
	waits(t, d, 1, 4, 5)
	has(t, d, base(5))
	b.steps(20)
	noMail(t, d, none...)
	sends(t, d, base(5))
	b.quiet()
	noMail(t, d, append(none, 1, 4, 5)...)
	b.whole(base(3), base(5), base(6), base(7))
}

// P14.2: what came is read, the oldest first, with the time ahead of its last bit but
// one.
func TestRead(t *testing.T) {
	d, other := open(t), open(t)
	b := newBus(t, other, d)
	send(t, other, 1, with(3, 1), with(5, 2), with(4, 3))
	readsNone(t, d)
	b.quiet()
	at := 0
	for i, f := range []api.Frame{with(3, 1), with(4, 3), with(5, 2)} {
		at += len(samples.OnBus(f))
		reads(t, d, f, at-2)
		at += 3
		if i == 1 {
			// One more waits while others are read.
			send(t, other, 4, with(6, 4))
			b.quiet()
		}
	}
	reads(t, d, with(6, 4), at+len(samples.OnBus(with(6, 4)))-2)
	readsNone(t, d)
	readsNone(t, other)
}
