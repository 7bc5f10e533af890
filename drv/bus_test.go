package drv_test

import (
	"math/rand/v2"
	"slices"
	"strings"
	"testing"

	"jackstay/api"
	"jackstay/drv"
	"jackstay/filter"
	"jackstay/samples"
)

// P14.4: what follows from all that.

// shared is a bus of so many drivers with filters and room of their own, and frames that
// all differ, each given to one of them.
type shared struct {
	filters [][]api.Filter
	rooms   []int
	frames  []api.Frame
	owners  []int // whose frame it is
	numbers []int // which number it has there
}

// newShared is one by chance.
func newShared(r *rand.Rand, drivers, frames int) shared {
	s := shared{frames: samples.Apart(r.Perm, frames)}
	for i := range drivers {
		var l []api.Filter
		for range i % 4 {
			f := s.frames[r.IntN(frames)]
			l = append(l, []api.Filter{
				{Ext: f.Ext},
				{Ext: f.Ext, Mask: 3, Match: f.ID & 3},
				{Ext: f.Ext, Mask: 0x7ff, Match: f.ID & 0x7ff},
			}[r.IntN(3)])
		}
		s.filters = append(s.filters, l)
		s.rooms = append(s.rooms, 1+r.IntN(frames+3))
	}
	many := make([]int, drivers)
	for range frames {
		owner := r.IntN(drivers)
		many[owner]++
		s.owners, s.numbers = append(s.owners, owner), append(s.numbers, many[owner])
	}
	return s
}

// made is the bus of the drivers, without their frames.
func (s shared) made(t *testing.T) *bus {
	t.Helper()
	var l []*drv.Drv
	for i, filters := range s.filters {
		l = append(l, made(t, filters, len(s.frames), s.rooms[i]))
	}
	return newBus(t, l...)
}

// send sends all frames.
func (s shared) send(t *testing.T, b *bus) {
	t.Helper()
	for i, f := range s.frames {
		send(t, b.l[s.owners[i]], s.numbers[i], f)
	}
}

// check holds what each driver was told to the frames in the order of keys, which were
// all there at the bit at which a bus began.
func (s shared) check(t *testing.T, b *bus, began int) {
	t.Helper()
	order := samples.Sorted(s.frames)
	for i, d := range b.l {
		var numbers []int
		var sent, came []api.Frame
		var times []int
		at := began
		for _, k := range order {
			f := s.frames[k]
			at += len(samples.OnBus(f)) + 3
			switch {
			case s.owners[k] == i:
				numbers, sent = append(numbers, s.numbers[k]), append(sent, f)
			case filter.Pass(s.filters[i], f):
				came, times = append(came, f), append(times, at-5)
			}
		}
		keeps := min(len(came), s.rooms[i])
		if !slices.Equal(b.numbers[i], numbers) || !samples.Are(b.sent[i], sent...) {
			t.Fatalf("of %v driver %d has sent %v, %v, not %v", s, i, b.numbers[i], b.sent[i], numbers)
		}
		if !samples.Are(b.taken[i], came[:keeps]...) || !samples.Are(b.lost[i], came[keeps:]...) || d.Overrun() != (keeps < len(came)) {
			t.Fatalf("of %v driver %d has taken %v, and lost %v, not %v; Overrun is %v", s, i, b.taken[i], b.lost[i], came, d.Overrun())
		}
		for k := range keeps {
			reads(t, d, came[k], times[k])
		}
		readsNone(t, d)
	}
}

// All frames are there when the bus is idle: they go one behind the other, without a gap.
func TestInTheOrderOfKeys(t *testing.T) {
	for seed := range uint64(70) {
		r := rand.New(rand.NewPCG(14, seed))
		s := newShared(r, 2+int(seed%7), 1+r.IntN(42))
		b := s.made(t)
		s.send(t, b)
		b.quiet()
		var all []api.Frame
		for _, k := range samples.Sorted(s.frames) {
			all = append(all, s.frames[k])
		}
		b.whole(all...)
		s.check(t, b, 0)
	}
}

// They come while another frame is on the bus.
func TestInTheOrderOfKeysBehindAnother(t *testing.T) {
	another := samples.Made(0x155, false, false, 1) // its own identifier
	long := len(samples.OnBus(another))
	for k := 14; k < long; k++ {
		r := rand.New(rand.NewPCG(141, uint64(k)))
		s := newShared(r, 4, 12)
		b := s.made(t)
		first := open(t)
		b.l = append(b.l, first)
		b = newBus(t, b.l...)
		send(t, first, 1, another)
		b.steps(k)
		s.send(t, b)
		b.quiet()
		if !samples.Same(b.sent[4][0], another) || b.numbers[4][0] != 1 {
			t.Fatalf("%v is not sent", another)
		}
		// The others have got that one, if their filters accept it.
		for i := range s.filters {
			if filter.Pass(s.filters[i], another) {
				b.taken[i] = b.taken[i][1:]
				reads(t, b.l[i], another, long-2)
				s.rooms[i]--
			}
		}
		b.l = b.l[:4]
		s.check(t, b, long+3)
	}
}

// Frames of equal keys in one driver go in the order in which they were sent, those of
// others around them.
func TestFramesOfOneKey(t *testing.T) {
	d, other := open(t), open(t)
	b := newBus(t, d, other)
	send(t, d, 1, with(6, 1), with(5, 2), with(5, 3), with(4, 4), with(5, 5))
	send(t, other, 1, base(3), api.Frame{ID: 5, Remote: true}, base(7), base(2))
	b.quiet()
	b.whole(base(2), base(3), with(4, 4), with(5, 2), with(5, 3), with(5, 5), api.Frame{ID: 5, Remote: true}, with(6, 1), base(7))
	if !slices.Equal(b.numbers[0], []int{4, 2, 3, 5, 1}) || !slices.Equal(b.numbers[1], []int{4, 1, 2, 3}) {
		t.Errorf("sent are %v", b.numbers)
	}
}

// The greatest bus, with the greatest mails: all that fit are sent, and come everywhere.
func TestManyDrivers(t *testing.T) {
	var l []*drv.Drv
	for range 32 {
		l = append(l, made(t, nil, 256, 256))
	}
	b := newBus(t, l...)
	var all []api.Frame
	for i := range 256 {
		all = append(all, base(uint32(i*5)))
		send(t, l[i*11%32], 1+i/32, base(uint32(i*5)))
	}
	b.quiet()
	b.whole(all...)
	for i := range l {
		if len(b.sent[i]) != 8 || len(b.taken[i]) != 248 || strings.Trim(b.told[i], "-ts") != "" {
			t.Errorf("driver %d has sent %d, and taken %d", i, len(b.sent[i]), len(b.taken[i]))
		}
	}
}

// With bits that are turned about nothing is sent twice that was told to be sent, and of
// what each driver tells nothing is forged: it was given to another one.
func TestTurnedBits(t *testing.T) {
	for seed := range uint64(40) {
		r := rand.New(rand.NewPCG(142, seed))
		s := newShared(r, 2+int(seed%4), 1+r.IntN(20))
		b := s.made(t)
		s.send(t, b)
		for range 40 {
			b.steps(r.IntN(150))
			b.step(r.IntN(len(b.l)))
		}
		for i := range b.l {
			slices.Sort(b.numbers[i])
			for _, f := range append(b.taken[i], b.lost[i]...) {
				if k := slices.IndexFunc(s.frames, func(g api.Frame) bool { return samples.Same(f, g) }); k < 0 || s.owners[k] == i || !filter.Pass(s.filters[i], f) {
					t.Fatalf("driver %d has taken %v", i, f)
				}
			}
			if len(slices.Compact(b.numbers[i])) != len(b.numbers[i]) {
				t.Fatalf("driver %d has sent %v", i, b.numbers[i])
			}
		}
		// Behind the last one all are sent in the end, also by those that were off.
		b.quiet()
		for i := range b.l {
			hasNone(t, b.l[i])
			slices.Sort(b.numbers[i])
			for k, n := range b.numbers[i] {
				if n != k+1 {
					t.Fatalf("driver %d has sent %v", i, b.numbers[i])
				}
			}
		}
	}
}
