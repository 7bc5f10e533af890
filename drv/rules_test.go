package drv_test

import (
	"math"
	"math/rand"
	"slices"
	"testing"
	"testing/quick"

	"jackstay/api"
	"jackstay/drv"
	"jackstay/rows"
	"jackstay/samples"
)

// The rules that hold everywhere, R1 to R7, as far as they touch this layer. It has no
// texts (R6, R7); mails and room that are none are tested with New (R7).

// none are drivers that are nil, or that New did not return: also copies of one that has
// frames, and is sending one, and of one that is full, with the flag set.
func none(t *testing.T) map[string]*drv.Drv {
	t.Helper()
	d, full := made(t, right(3), 3, 3), made(t, nil, 1, 1)
	b := newBus(t, d, full)
	send(t, d, 1, base(3), base(4), base(5))
	b.steps(130)
	some := *d
	send(t, full, 1, base(9))
	lost := *full
	if !full.Overrun() || !d.Ctl().Sends {
		t.Fatalf("the flag is %v, and one has %+v", full.Overrun(), d.Ctl())
	}
	return map[string]*drv.Drv{"nil": nil, "a new one": new(drv.Drv), "a copy": &some, "a copy of a full one": &lost}
}

// R5: what a driver that is none returns. ErrNil is named ahead of the other errors.
func TestDriversThatAreNone(t *testing.T) {
	for what, d := range none(t) {
		// More than once, as nothing comes of the calls.
		for round := range 300 {
			for _, f := range []api.Frame{base(1), base(1 << 11)} {
				refuses(t, d, f, api.ErrNil)
			}
			for _, n := range []int{math.MinInt, -1, 0, 1, 2, 3, math.MaxInt} {
				if gone, e := d.Abort(n); gone || e != api.ErrNil || d.Waits(n) {
					t.Fatalf("%s: Abort(%d) is %v, error %d; it waits: %v", what, n, gone, e, d.Waits(n))
				}
			}
			if x, ok := d.Read(); ok || x.At != 0 || !samples.Same(x.Frame, api.Frame{}) {
				t.Fatalf("%s: Read is %v, %v", what, x, ok)
			}
			if out, in := d.Fill(); out != 0 || in != 0 {
				t.Fatalf("%s: Fill is %d, %d", what, out, in)
			}
			if d.Overrun() || d.Clear() {
				t.Fatalf("%s: the flag is set", what)
			}
			if !d.Drive() {
				t.Fatalf("%s: it drives dominant", what)
			}
			if n := d.Step(round%3 > 0); !same(n, api.Note{}) {
				t.Fatalf("%s: Step is %v", what, n)
			}
			if c := d.Ctl(); !samples.SameCtl(c, api.Ctl{}) || d.Now() != 0 {
				t.Fatalf("%s: the controller is %+v, at the time %d", what, c, d.Now())
			}
		}
	}
}

// R5: a copy leaves the driver alone that it was made of.
func TestCopiesLeaveDriversAlone(t *testing.T) {
	l := []*pair{newPair(t, "with copies", nil, 3, 2), newPair(t, "the other one", nil, 3, 2)}
	for k := range 1000 {
		if k%140 == 0 {
			l[0].send(t, base(uint32(k%7)))
			l[1].send(t, base(uint32(k%5+10)))
		}
		if k%600 == 0 {
			l[0].read(t)
		}
		other := *l[0].d
		other.Send(base(0))
		other.Abort(l[0].s.sends)
		other.Read()
		other.Clear()
		other.Step(k%2 == 0)
		l[0].compare(t)
		stepAll(t, l)
	}
	if l[0].told[api.NoteSent] < 5 || l[0].told[api.NoteLost] == 0 {
		t.Errorf("told are %v", l[0].told)
	}
}

// R1: every call returns, whatever its arguments are.
func TestEveryCallReturns(t *testing.T) {
	d := made(t, []api.Filter{{Mask: 1}}, 5, 5)
	one := func(filters []api.Filter, mails, room int, f api.Frame, n int, row []bool) bool {
		if other, e := drv.New(filters, mails, room); (other == nil) != (e == api.ErrArg) {
			return false
		}
		if other, e := drv.New(filters[:min(1, len(filters))], 1+mails&0xff, 1+room&0xff); e == api.OK {
			other.Send(f)
		}
		d.Send(f)
		f.ID %= api.MaxExt + 1
		f.Data = f.Data[:min(len(f.Data), 8)]
		f.Dlc = uint8(len(f.Data))
		d.Send(f)
		d.Abort(n)
		d.Waits(n)
		for _, bit := range row {
			d.Step(bit && d.Drive())
			d.Step(d.Drive())
		}
		d.Read()
		d.Abort(n & 0xff)
		return d.Now() > 0 || len(row) == 0
	}
	if e := quick.Check(one, &quick.Config{MaxCount: 2000, Rand: rand.New(rand.NewSource(14))}); e != nil {
		t.Error(e)
	}
}

// R2: errors, and a false, leave no trace: what comes then is as in a story without them.
func TestErrorsChangeNothing(t *testing.T) {
	wrong := samples.Wrong()
	fail := func(p *pair, k int) {
		t.Helper()
		refuses(t, p.d, wrong[k%len(wrong)], api.ErrFrame)
		if len(p.s.waits) == p.s.mails {
			refuses(t, p.d, base(0), api.ErrFull)
		}
		noMail(t, p.d, -1, 0, p.s.sends+1)
		if len(p.s.came) == 0 {
			readsNone(t, p.d)
		}
		if !p.s.overrun {
			cleared(t, p.d, false)
		}
		notMade(t, nil, 0, 1)
		p.compare(t)
	}
	l := []*pair{newPair(t, "one", nil, 2, 2), newPair(t, "the other one", right(2), 3, 1)}
	for k := range 3000 {
		fail(l[0], k)
		fail(l[1], k+1)
		switch k % 120 {
		case 0, 10:
			l[0].send(t, base(uint32(k%9)))
		case 30:
			l[1].send(t, base(uint32(k%7+9)))
		case 40:
			l[0].abort(t, l[0].s.sends)
		case 50:
			if k%600 < 120 {
				l[0].read(t)
			}
		}
		if k%371 == 370 {
			stepAll(t, l, 0)
		} else {
			stepAll(t, l)
		}
	}
	if l[0].told[api.NoteSent] < 10 || l[0].told[api.NoteTook] < 5 || l[0].told[api.NoteLost] == 0 {
		t.Errorf("told are %v", l[0].told)
	}
}

// R3: New leaves its filters as they are, also behind their end, and does not keep them.
func TestFiltersHaveMemoryOfTheirOwn(t *testing.T) {
	for many := 1; many <= 64; many++ {
		l := append(right(many), one(7), one(8), one(9))
		want := slices.Clone(l)
		d, other := made(t, l[:many], 256, 256), open(t)
		b := newBus(t, other, d)
		if !slices.Equal(l, want) {
			t.Fatalf("the filters have become %v", l)
		}
		for i := range l {
			l[i] = one(7)
		}
		send(t, other, 1, base(7), base(uint32(99+many)))
		b.quiet()
		if !samples.Are(b.taken[1], base(uint32(99+many))) || !slices.Equal(l[many:], []api.Filter{one(7), one(7), one(7)}) {
			t.Fatalf("with %d filters, which have become others, taken are %v", many, b.taken[1])
		}
	}
}

// R3: Send leaves its frame as it is, also behind the end of its data, and with errors.
func TestSendLeavesFramesAsTheyAre(t *testing.T) {
	for i, f := range append(samples.Right(), samples.Wrong()...) {
		if i%5 != 0 {
			continue
		}
		f = samples.Roomy(f)
		whole := samples.Whole(f).Data
		want := string(whole)
		d, other := made(t, nil, 1, 1), made(t, nil, 1, 1)
		d.Send(f)
		d.Send(f)
		new(drv.Drv).Send(f)
		b := newBus(t, d, other)
		for range 250 {
			b.step()
			samples.SpoilCtl(d.Ctl())
		}
		for _, l := range [][]api.Frame{b.sent[0], b.taken[1]} {
			for _, g := range l {
				samples.Spoil(g)
			}
		}
		if string(whole) != want {
			t.Fatalf("the data of %v, and what is behind, have become %q", f, whole)
		}
	}
}

// R3: what is written over frames that were sent, and over all that is returned, changes
// nothing of what comes.
func TestResultsAreNew(t *testing.T) {
	l := []*pair{newPair(t, "one", nil, 5, 2), newPair(t, "the other one", nil, 5, 2)}
	r := rand.New(rand.NewSource(3))
	all := samples.Some()
	var kept []api.Note
	var wanted []api.Frame
	for k := range 4000 {
		p := l[k%2]
		if r.Intn(30) == 0 && len(p.s.waits) < 5 {
			f := all[r.Intn(len(all))]
			mine := samples.Roomy(f)
			p.s.send(f)
			p.d.Send(mine)
			samples.Spoil(mine)
		}
		bit := l[0].d.Drive() && l[1].d.Drive()
		for _, p := range l {
			n, want := p.d.Step(bit), p.s.step(bit)
			if !same(n, want) {
				t.Fatalf("at %d Step is %v, not %v", k, n, want)
			}
			if n.What == api.NoteTook && r.Intn(2) == 0 {
				// It is read before what was told is written over.
				x, _ := p.d.Read()
				p.s.read()
				samples.Spoil(x.Frame)
			}
			if k%3 > 0 {
				samples.Spoil(n.Frame)
			} else if n.What != api.NoteNone {
				kept, wanted = append(kept, n), append(wanted, want.Frame)
			}
			samples.SpoilCtl(p.d.Ctl())
			p.compare(t)
		}
		if r.Intn(50) == 0 {
			x, ok := p.d.Read()
			if want, is := p.s.read(); ok != is || !samples.Same(x.Frame, want.Frame) || x.At != want.At {
				t.Fatalf("at %d Read is %v, %v, not %v", k, x, ok, want)
			}
			samples.Spoil(x.Frame)
		}
	}
	for i, n := range kept {
		if !samples.Same(n.Frame, wanted[i]) {
			t.Fatalf("what was told of %v has become %v", wanted[i], n)
		}
	}
	if len(kept) < 20 {
		t.Errorf("%d are kept", len(kept))
	}
}

// R3: what Ctl returned stays as it was, whatever becomes of the driver.
func TestControllersStayAsTheyWere(t *testing.T) {
	d, other := open(t), open(t)
	b := newBus(t, d, other)
	send(t, d, 1, with(5, 1), with(9, 2))
	send(t, other, 1, with(7, 3))
	var l, want []api.Ctl
	for range 200 {
		for _, one := range b.l {
			c := one.Ctl()
			l, want = append(l, c), append(want, samples.RoomyCtl(c))
		}
		b.step()
	}
	for i, c := range l {
		if !samples.SameCtl(c, want[i]) {
			t.Fatalf("what Ctl returned has become\n%+v, and was\n%+v", c, want[i])
		}
	}
}

// R4: what a driver returns hangs on its own history alone, not on other drivers, that
// are on another bus.
func TestDriversAreApart(t *testing.T) {
	var buses [][]*pair
	for i := range 4 {
		buses = append(buses, []*pair{newPair(t, "one", right(i), 2, 2), newPair(t, "the other one", nil, 3, 1)})
	}
	r := rand.New(rand.NewSource(4))
	for range 20000 {
		l := buses[r.Intn(len(buses))]
		p := l[r.Intn(len(l))]
		switch r.Intn(50) {
		case 0:
			p.send(t, base(uint32(99+r.Intn(4))))
		case 1:
			p.abort(t, p.s.sends-r.Intn(2))
		case 2:
			p.read(t)
			p.clear(t)
		}
		stepAll(t, l)
	}
}

// R4: nor on a capacity.
func TestCapacityDoesNotMatter(t *testing.T) {
	filters := make([]api.Filter, 1, 100)
	filters[0] = one(5)
	data := make([]byte, 1, 100)
	d, other := made(t, filters, 2, 2), made(t, filters[:0], 2, 2)
	b := newBus(t, d, other)
	send(t, d, 1, api.Frame{ID: 5, Dlc: 1, Data: data})
	send(t, other, 1, api.Frame{ID: 6, Dlc: 2, Data: data[:2]}, api.Frame{ID: 7, Data: data[:0]})
	b.steps(30)
	abort(t, other, 1, true)
	b.quiet()
	b.whole(with(5, 0), base(7))
	if !samples.Are(b.taken[1], with(5, 0)) || len(b.taken[0]) > 0 {
		t.Errorf("taken are %v", b.taken)
	}
}

// R6: no data, and no filters, are as good as nil.
func TestEmptyIsNil(t *testing.T) {
	for _, filters := range [][]api.Filter{nil, {}, make([]api.Filter, 0, 8), right(9)[:0]} {
		d, other := made(t, filters, 4, 4), open(t)
		b := newBus(t, other, d)
		send(t, other, 1, api.Frame{ID: 5, Data: []byte{}}, base(6), api.Frame{ID: 7, Data: make([]byte, 0, 8)}, api.Frame{ID: 8, Remote: true, Dlc: 4, Data: []byte{}})
		b.quiet()
		all := []api.Frame{base(5), base(6), base(7), {ID: 8, Remote: true, Dlc: 4}}
		b.whole(all...)
		if !samples.Are(b.taken[1], all...) || !samples.Are(b.sent[0], all...) {
			t.Errorf("taken are %v, sent %v", b.taken[1], b.sent[0])
		}
	}
}

// R7: bits of all kinds of rows, also such that no bus has.
func TestAnyBits(t *testing.T) {
	for s := range rows.UpTo(10) {
		p := newPair(t, s, []api.Filter{{Mask: 1, Match: 1}}, 2, 1)
		p.send(t, with(5, 1))
		for i, bit := range rows.Of(s + "ddddddddrrrrrrrrrrr" + s) {
			p.step(t, bit)
			if i == 3 {
				p.send(t, base(1))
			}
		}
		p.abort(t, 1)
	}
}
