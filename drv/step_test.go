package drv_test

import (
	"slices"
	"strings"
	"testing"

	"jackstay/api"
	"jackstay/ctl"
	"jackstay/drv"
	"jackstay/rows"
	"jackstay/samples"
)

// P14.3: bits.

// Without frames of its own a driver is its controller: whatever it samples.
func TestStepsAreThoseOfTheController(t *testing.T) {
	l := slices.Collect(rows.UpTo(9))
	for _, f := range samples.Some() {
		l = append(l, samples.Wire(f), samples.OnBus(f)+"rrr"+samples.OnBus(f))
	}
	for i, s := range l {
		d := open(t)
		var c api.Ctl
		for k, bit := range rows.Of(s + s + many("d", i%40)) {
			if d.Drive() != ctl.Drive(c) || d.Now() != k {
				t.Fatalf("%q: at bit %d it drives %v, at the time %d", s, k, d.Drive(), d.Now())
			}
			d.Step(bit)
			c, _ = ctl.Step(c, bit)
			if !samples.SameCtl(d.Ctl(), c) {
				t.Fatalf("%q: behind bit %d the controller is\n%+v, not\n%+v", s, k, d.Ctl(), c)
			}
		}
	}
}

// What is sent is told with its number, and the frame; what is taken with the frame.
func TestSentAndTook(t *testing.T) {
	d, other := made(t, nil, 1, 1), made(t, nil, 1, 1)
	b := newBus(t, d, other)
	var all []api.Frame
	begins := 0
	for i, f := range append(samples.Right()[:224], samples.Some()...) {
		send(t, d, i+1, f)
		b.quiet()
		at := begins + len(samples.OnBus(f)) - 2
		reads(t, other, f, at)
		readsNone(t, d)
		hasNone(t, d)
		if told := b.told[0][begins:]; told != many("-", len(told)-4)+"s---" {
			t.Fatalf("of %v it is told %q", f, told)
		}
		if told := b.told[1][begins:]; told != many("-", len(told)-5)+"t----" {
			t.Fatalf("of %v the other one is told %q", f, told)
		}
		if n := b.numbers[0][i]; n != i+1 {
			t.Fatalf("%v is sent as %d, not %d", f, n, i+1)
		}
		all = append(all, f)
		begins = d.Now()
	}
	b.whole(all...)
	if !samples.Are(b.sent[0], all...) || !samples.Are(b.taken[1], all...) {
		t.Error("other frames are sent, or taken, than those that were given")
	}
}

// A frame that is taken while better ones, and worse ones, wait changes nothing of them.
func TestTakenWhileOthersWait(t *testing.T) {
	const behind = 13 // bits of the other one's frame, when it has won
	long := len(samples.OnBus(with(7, 70)))
	for k := range long + 3 - behind {
		d, other := open(t), open(t)
		b := newBus(t, d, other)
		send(t, other, 1, with(7, 70))
		send(t, d, 1, base(9))
		b.steps(behind)
		send(t, d, 2, base(8))
		b.steps(k)
		send(t, d, 3, base(3), base(7), base(0x7ff), base(2))
		b.quiet()
		b.whole(with(7, 70), base(2), base(3), base(7), base(8), base(9), base(0x7ff))
		if !slices.Equal(b.numbers[0], []int{6, 3, 4, 2, 1, 5}) {
			t.Fatalf("sent are %v", b.numbers[0])
		}
		reads(t, d, with(7, 70), long-2)
		readsNone(t, d)
	}
}

// P14.3: filters.

// Of all base frames, and some extended ones, each driver gets what its filters accept.
func TestFilters(t *testing.T) {
	l := []*drv.Drv{
		made(t, nil, 1, 256),
		made(t, []api.Filter{}, 1, 256),
		made(t, []api.Filter{one(0x107)}, 1, 256),
		made(t, []api.Filter{{Mask: 3, Match: 1}}, 1, 256),
		made(t, []api.Filter{one(0x105), {Mask: 3, Match: 1}, one(0x110)}, 1, 256),
		made(t, []api.Filter{{Ext: true}}, 1, 256),
		made(t, []api.Filter{{Ext: true, Mask: 1, Match: 1}, {Mask: 0x7f0, Match: 0x110}}, 1, 256),
		made(t, append(right(63), one(0x117)), 1, 256),
	}
	sender := made(t, []api.Filter{one(0)}, 256, 1)
	b := newBus(t, append(l, sender)...)
	want := make([][]api.Frame, len(l))
	for i := range uint32(0x18) {
		f, g := api.Frame{ID: 0x100 + i, Remote: i%3 == 0}, api.Frame{ID: i<<18 + i, Ext: true}
		accepts := map[int][]bool{
			0: {true, true}, 1: {true, true},
			2: {i == 7, false}, 3: {i%4 == 1, false},
			4: {i%4 == 1 || i == 0x10, false}, 5: {false, true},
			6: {i >= 0x10, i%2 == 1}, 7: {i == 0x17, false},
		}
		for k, both := range accepts {
			if both[0] {
				want[k] = append(want[k], f)
			}
			if both[1] {
				want[k] = append(want[k], g)
			}
		}
		send(t, sender, int(2*i+1), f)
		b.quiet()
		send(t, sender, int(2*i+2), g)
		b.quiet()
	}
	for k := range l {
		if !samples.Are(b.taken[k], want[k]...) || strings.Count(b.told[k], "t") != len(want[k]) || strings.Trim(b.told[k], "t-") != "" {
			t.Errorf("driver %d has taken %v, not %v", k, b.taken[k], want[k])
		}
		for _, f := range want[k] {
			if x, ok := l[k].Read(); !ok || !samples.Same(x.Frame, f) {
				t.Fatalf("driver %d reads %v, %v, not %v", k, x, ok, f)
			}
		}
		readsNone(t, l[k])
		flag(t, l[k], false)
	}
}

// Each of 64 filters counts, alone.
func TestAllFiltersCount(t *testing.T) {
	for _, many := range []int{1, 2, 63, 64} {
		d, other := made(t, right(many), 1, 256), made(t, nil, 256, 1)
		b := newBus(t, other, d)
		var want []api.Frame
		for i := range many + 2 {
			f := base(uint32(99 + i))
			send(t, other, i+1, f)
			if i > 0 && i <= many {
				want = append(want, f)
			}
		}
		b.quiet()
		if !samples.Are(b.taken[1], want...) {
			t.Errorf("with %d filters taken are %v", many, b.taken[1])
		}
	}
}

// P14.3: room.

// As many frames as there is room for are kept; others are lost, and the flag tells so,
// until it is cleared.
func TestLost(t *testing.T) {
	for _, room := range []int{1, 2, 3, 7, 255, 256} {
		d, other := made(t, nil, 1, room), made(t, nil, 256, 1)
		b := newBus(t, other, d)
		var all []api.Frame
		for i := range room + 3 {
			f := with(uint32(100+i), byte(i))
			all = append(all, f)
			send(t, other, i+1, f)
			flag(t, d, i > room)
			b.quiet()
		}
		if !samples.Are(b.taken[1], all[:room]...) || !samples.Are(b.lost[1], all[room:]...) || !samples.Are(b.sent[0], all...) {
			t.Fatalf("with room for %d taken are %d, and lost %v", room, len(b.taken[1]), b.lost[1])
		}
		if _, in := d.Fill(); in != room {
			t.Fatalf("with room for %d there are %d", room, in)
		}
		for range 2 {
			b.l[1].Read()
		}
		flag(t, d, true)
		cleared(t, d, true)
		cleared(t, d, false)
		for range room {
			d.Read()
		}
		readsNone(t, d)
	}
}

// There is room again when one is read; the flag stays until it is cleared.
func TestLostAndRead(t *testing.T) {
	d, other := made(t, nil, 1, 2), made(t, nil, 256, 1)
	b := newBus(t, other, d)
	long := len(samples.OnBus(with(3, 0))) + 3
	for i := range 20 {
		// Of three that come two are kept; the next one is lost while both are there.
		for k := range 3 {
			send(t, other, 3*i+k+1, with(3, 0))
			b.quiet()
			flag(t, d, k == 2)
		}
		reads(t, d, with(3, 0), 3*i*long+long-5)
		reads(t, d, with(3, 0), 3*i*long+2*long-5)
		readsNone(t, d)
		flag(t, d, true)
		cleared(t, d, true)
	}
	if told := strings.ReplaceAll(b.told[1], "-", ""); told != many("ttl", 20) {
		t.Errorf("it is told %q", told)
	}
	if len(b.lost[1]) != 20 || !samples.Same(b.lost[1][19], with(3, 0)) {
		t.Errorf("lost are %v", b.lost[1])
	}
}

// Frames that the filters do not accept are not lost: they need no room.
func TestFilteredFramesNeedNoRoom(t *testing.T) {
	d, other := made(t, []api.Filter{one(5)}, 1, 1), open(t)
	b := newBus(t, other, d)
	for i, id := range []uint32{3, 5, 4, 6} {
		send(t, other, i+1, base(id))
		b.quiet()
	}
	flag(t, d, false)
	if !samples.Are(b.taken[1], base(5)) || len(b.lost[1]) > 0 {
		t.Errorf("taken are %v, lost %v", b.taken[1], b.lost[1])
	}
	send(t, other, 5, base(5))
	b.quiet()
	if !samples.Are(b.lost[1], base(5)) {
		t.Errorf("lost are %v", b.lost[1])
	}
	flag(t, d, true)
}

// P14.3: faults.

// A frame that is disturbed waits, and goes again; a better one that has come meanwhile
// goes first. It is sent once.
func TestDisturbed(t *testing.T) {
	for _, f := range []api.Frame{with(3, 0x55), samples.Made(0x0aaa5555, true, false, 1), samples.Made(0x2aa, false, true, 2)} {
		long := len(samples.OnBus(f))
		for at := range long {
			for _, turned := range []int{0, 1, 2} {
				checkDisturbed(t, f, at, turned)
			}
		}
	}
}

// checkDisturbed lets a driver send a frame, which another one, or itself, samples
// inverted at a bit.
func checkDisturbed(t *testing.T, f api.Frame, at, turned int) {
	t.Helper()
	better, best, worse := base(2), base(1), base(0x7ff)
	d := open(t)
	b := newBus(t, d, open(t), open(t))
	send(t, d, 1, f, worse)
	b.steps(at)
	b.step(turned)
	began := d.Ctl().Sends
	send(t, d, 3, better)
	switch {
	case began:
		sends(t, d, f)
	case len(b.sent[0]) == 0:
		has(t, d, better)
	}
	b.steps(3)
	send(t, d, 4, best)
	waiting := len(b.sent[0]) == 0
	if waiting && !d.Ctl().Sends {
		has(t, d, best)
	}
	if waiting {
		waits(t, d, 1, 2, 3, 4)
	}
	b.quiet()
	want := []int{4, 3, 1, 2}
	if b.numbers[0][0] == 1 {
		want = []int{1, 4, 3, 2}
	}
	if !slices.Equal(b.numbers[0], want) {
		t.Fatalf("%v, turned at bit %d of driver %d: sent are %v", f, at, turned, b.numbers[0])
	}
	if got := b.taken[1]; turned == 0 && !samples.Are(got, b.sent[0]...) && !samples.Are(got[1:], b.sent[0]...) {
		t.Fatalf("%v, turned at bit %d of driver %d: sent are %v, taken %v", f, at, turned, b.sent[0], got)
	}
}

// gone is a driver that a bit has taken off the bus, as it samples the inverse of what it
// drives; these frames wait there.
func gone(t *testing.T, l ...api.Frame) *drv.Drv {
	t.Helper()
	d := open(t)
	send(t, d, 1, l...)
	for range 1000 {
		n := d.Step(!d.Drive())
		if n.What == api.NoteOff {
			if !same(n, api.Note{What: api.NoteOff}) || d.Ctl().Phase != api.PhaseOff {
				t.Fatalf("it goes off with %v: %+v", n, d.Ctl())
			}
			return d
		}
		if !same(n, api.Note{}) {
			t.Fatalf("ahead of going off it is told %v", n)
		}
	}
	t.Fatalf("it does not go off: %+v", d.Ctl())
	return nil
}

// A driver that goes off keeps what waits, and drives nothing; when it is on again it
// sends that.
func TestOffAndOn(t *testing.T) {
	d := gone(t, base(5), base(3), base(9))
	has(t, d, base(3))
	waits(t, d, 1, 2, 3)
	send(t, d, 4, base(1))
	has(t, d, base(1))
	abort(t, d, 1, true)
	b := newBus(t, d, open(t))
	b.steps(offBits - 1)
	if b.told[0] != many("-", offBits-1) || b.row != many("r", offBits-1) {
		t.Fatalf("while it is off it is told %q, and on the bus is %q", b.told[0], b.row)
	}
	send(t, d, 5, base(8))
	abort(t, d, 4, true)
	has(t, d, base(3))
	b.step()
	if !strings.HasSuffix(b.told[0], "-n") || d.Ctl().Phase != api.PhaseIdle || d.Ctl().Conf != (api.Conf{}) {
		t.Fatalf("it is not on again: %+v, %q", d.Ctl(), b.told[0])
	}
	has(t, d, base(3))
	b.row = ""
	b.quiet()
	b.whole(base(3), base(8), base(9))
	if !slices.Equal(b.numbers[0], []int{2, 5, 3}) {
		t.Errorf("sent are %v", b.numbers[0])
	}
}

// While a driver is off it takes nothing, and others go on.
func TestOffBesideOthers(t *testing.T) {
	d, other := gone(t, base(5)), open(t)
	b := newBus(t, d, other, open(t))
	send(t, other, 1, base(7), base(8))
	b.quietBut(t, d)
	if !samples.Are(b.taken[2], base(7), base(8)) || len(b.taken[0]) > 0 || len(b.sent[0]) > 0 {
		t.Errorf("sent are %v, taken %v", b.sent, b.taken)
	}
	waits(t, d, 1)
	b.steps(offBits)
	b.quiet()
	if !samples.Are(b.sent[0], base(5)) || !samples.Are(b.taken[1], base(5)) || !samples.Are(b.taken[2], base(7), base(8), base(5)) {
		t.Errorf("sent are %v, taken %v", b.sent, b.taken)
	}
	if told := strings.ReplaceAll(b.told[0], "-", ""); told != "ns" {
		t.Errorf("it is told %q", told)
	}
}

// quietBut goes on until no frame waits, but those of one driver.
func (b *bus) quietBut(t *testing.T, but *drv.Drv) {
	t.Helper()
	for range 1000 {
		if !slices.ContainsFunc(b.l, func(d *drv.Drv) bool { return d != but && busy(d) }) {
			return
		}
		b.step()
	}
	t.Fatal("it is not quiet behind 1000 bits")
}

// One that is aborted on the bus, and goes off there, is gone; the others wait.
func TestAbortAndGoOff(t *testing.T) {
	d := open(t)
	send(t, d, 1, base(5), base(3))
	b := newBus(t, d)
	// Alone on the bus it becomes passive, as nobody acknowledges. From then on a
	// recessive bit in place of a dominant one takes it nearer to going off.
	for d.Ctl().Conf.TEC < 128 {
		b.step()
	}
	for d.Ctl().Conf.TEC <= 247 {
		for !d.Ctl().Sends || d.Drive() {
			b.step()
		}
		b.step(0)
	}
	for !d.Ctl().Sends || d.Drive() {
		b.step()
	}
	abort(t, d, 2, false)
	waits(t, d, 1, 2)
	if n := d.Step(true); !same(n, api.Note{What: api.NoteOff}) {
		t.Fatalf("it is told %v: %+v", n, d.Ctl())
	}
	waits(t, d, 1)
	has(t, d, base(5))
	noMail(t, d, 2)
	b.l = append(b.l, open(t))
	b.told, b.taken, b.lost = append(b.told, ""), append(b.taken, nil), append(b.lost, nil)
	b.numbers, b.sent = append(b.numbers, nil), append(b.sent, nil)
	b.steps(offBits)
	b.quiet()
	if !slices.Equal(b.numbers[0], []int{1}) || !samples.Are(b.taken[1], base(5)) {
		t.Errorf("sent are %v, taken %v", b.numbers[0], b.taken[1])
	}
}

// A driver alone on the bus: nobody acknowledges, and its frame waits on and on; a better
// one takes its place.
func TestAlone(t *testing.T) {
	d := open(t)
	send(t, d, 1, base(5))
	b := newBus(t, d)
	b.steps(3000)
	if c := d.Ctl(); c.Conf.TEC != 128 || !d.Waits(1) || strings.Trim(b.told[0], "-") != "" {
		t.Errorf("alone it is told %q: %+v", b.told[0], c)
	}
	for d.Ctl().Sends {
		b.step()
	}
	send(t, d, 2, base(3))
	has(t, d, base(3))
	b = newBus(t, d, open(t))
	b.quiet()
	if !slices.Equal(b.numbers[0], []int{2, 1}) {
		t.Errorf("sent are %v", b.numbers[0])
	}
}
