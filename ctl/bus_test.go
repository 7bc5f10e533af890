package ctl_test

import (
	"math/rand/v2"
	"slices"
	"strings"
	"testing"

	"jackstay/api"
	"jackstay/bits"
	"jackstay/ctl"
	"jackstay/frame"
	"jackstay/rows"
	"jackstay/samples"
)

// P8.3: controllers with each other.

// bus are controllers on a bus, what was on it, what each one was told, and which frames
// each one has sent and taken.
type bus struct {
	l           []api.Ctl
	row         string
	told        []string
	sent, taken [][]api.Frame
}

// newBus is one of so many controllers.
func newBus(l ...api.Ctl) *bus {
	return &bus{l: l, told: make([]string, len(l)), sent: make([][]api.Frame, len(l)), taken: make([][]api.Frame, len(l))}
}

// step is a bit; turned are those that sample it inverted.
func (b *bus) step(turned ...int) {
	var drives []bool
	for _, c := range b.l {
		drives = append(drives, ctl.Drive(c))
	}
	bit := bits.Bus(drives)
	b.row += rows.Text([]bool{bit})
	for i, c := range b.l {
		next, h := ctl.Step(c, bit != slices.Contains(turned, i))
		b.l[i] = next
		b.told[i] += samples.Letters[h.What : h.What+1]
		switch h.What {
		case api.HapSent:
			b.sent[i] = append(b.sent[i], h.Frame)
		case api.HapTook:
			b.taken[i] = append(b.taken[i], h.Frame)
		}
	}
}

// steps are so many bits.
func (b *bus) steps(many int) {
	for range many {
		b.step()
	}
}

// A controller that is off drives recessive, whatever it has, and whatever it samples.
func TestOffIsRecessive(t *testing.T) {
	r := rand.New(rand.NewPCG(1, 8))
	for round := range 20 {
		c := api.Ctl{Phase: api.PhaseOff, Conf: gone(256+round%8, round)}
		if round%2 == 0 {
			c = given(t, c, own)
		}
		for k := 0; c.Phase == api.PhaseOff; k++ {
			if !ctl.Drive(c) || !c.Conf.Off {
				t.Fatalf("behind %d bits it drives %v, with %v", k, ctl.Drive(c), c.Conf)
			}
			c, _ = ctl.Step(c, r.IntN(30) != 0)
		}
		if c.Phase != api.PhaseIdle || c.Conf != (api.Conf{}) || ctl.Drive(c) == c.Has {
			t.Fatalf("on again it is %+v", c)
		}
	}
}

// A sender that is alone is not acknowledged, again and again, but never goes off.
func TestSendersThatAreAlone(t *testing.T) {
	for _, f := range samples.Right() {
		b := newBus(given(t, api.Ctl{}, f))
		s := samples.Wire(f)
		b.steps(len(s) - 8)
		if b.told[0] != many("-", len(s)-9)+"a" || b.row != s[:len(s)-8] {
			t.Fatalf("%v, alone, is told %q, with %q on the bus", f, b.told[0], b.row)
		}
	}
	b := newBus(given(t, api.Ctl{}, own))
	s := samples.Wire(own)
	active := s[:len(s)-8] + "dddddd" + many("r", 11)
	passive := s[:len(s)-8] + "rrrrrr" + many("r", 19)
	for range 16 {
		b.steps(len(active))
	}
	if c := b.l[0]; c.Conf != (api.Conf{TEC: 128}) || !c.Has || len(b.sent[0]) > 0 {
		t.Errorf("behind 16 errors it is %+v", c)
	}
	// The last active flag is followed by what a passive sender waits.
	want := strings.Repeat(active, 16) + many("r", 8)
	b.steps(8)
	for range 30 {
		b.steps(len(passive))
		want += passive
	}
	if c := b.l[0]; c.Conf != (api.Conf{TEC: 128}) || !c.Has || b.row != want || len(b.sent[0]) > 0 {
		t.Errorf("behind 46 errors it is %+v, and %q was on the bus, not %q", c, b.row, want)
	}
	// Another one comes.
	b.l = append(b.l, api.Ctl{})
	b.told, b.sent, b.taken = append(b.told, ""), append(b.sent, nil), append(b.taken, nil)
	b.steps(len(s))
	if !samples.Are(b.sent[0], own) || !samples.Are(b.taken[1], own) || b.l[0].Conf.TEC != 127 {
		t.Errorf("with another one it has sent %v, which has taken %v; %+v", b.sent[0], b.taken[1], b.l[0])
	}
}

// Of two that start at once the one that goes on where the other one stops sends its
// frame as if it were alone; all others take it; then comes the other one's.
func TestTwoSenders(t *testing.T) {
	met := 0
	for i, f := range samples.Some() {
		for k, g := range samples.Some() {
			if !frame.Before(f, g) {
				continue
			}
			met++
			first, second := samples.Acked(samples.Wire(f)), samples.Acked(samples.Wire(g))
			b := newBus(given(t, api.Ctl{}, f), given(t, api.Ctl{}, g), api.Ctl{})
			b.steps(len(first))
			if b.row != first || b.told[0] != many("-", len(first)-1)+"s" || !samples.Are(b.sent[0], f) {
				t.Fatalf("%v with %v is told %q, and %q is on the bus", f, g, b.told[0], b.row)
			}
			if !samples.Are(b.taken[1], f) || !samples.Are(b.taken[2], f) || strings.Count(b.told[1], "l") != 1 || len(b.sent[1]) > 0 {
				t.Fatalf("%v against %v is told %q", g, f, b.told[1])
			}
			b.steps(3 + len(second))
			if b.row != first+"rrr"+second || !samples.Are(b.sent[0], f) || !samples.Are(b.sent[1], g) || !samples.Are(b.taken[0], g) || !samples.Are(b.taken[2], f, g) {
				t.Fatalf("%v behind %v: %q is on the bus; told is %q (%d, %d)", g, f, b.row, b.told, i, k)
			}
			for n, c := range b.l {
				if c.Conf != (api.Conf{}) || c.Has || c.Phase != api.PhaseInter {
					t.Fatalf("behind %v and %v controller %d is %+v", f, g, n, c)
				}
			}
		}
	}
	if met < 100 {
		t.Errorf("of such pairs there are %d", met)
	}
}

// Many that start at once: one after the other, in order.
func TestManySenders(t *testing.T) {
	frames := []api.Frame{
		{ID: 0}, {ID: 0, Remote: true}, {ID: 0, Ext: true}, {ID: 0, Ext: true, Remote: true}, {ID: 1, Ext: true, Dlc: 1, Data: []byte{0}},
		{ID: 1, Dlc: 8, Data: []byte("abcdefgh")}, {ID: 1<<18 | 7, Ext: true}, {ID: 0x3ff}, {ID: 0x400}, {ID: 0x7ff, Remote: true, Dlc: 15}, {ID: 1<<29 - 1, Ext: true},
	}
	for seed := range uint64(20) {
		r := rand.New(rand.NewPCG(seed, 8))
		var l []api.Ctl
		for _, n := range r.Perm(len(frames)) {
			l = append(l, given(t, api.Ctl{}, frames[n]))
		}
		b := newBus(append(l, api.Ctl{})...)
		want := ""
		for _, f := range frames {
			want += samples.Acked(samples.Wire(f)) + "rrr"
		}
		b.steps(len(want))
		if b.row != want || !samples.Are(b.taken[len(l)], frames...) {
			t.Fatalf("of many senders %v was taken; %q was on the bus", b.taken[len(l)], b.row)
		}
	}
}

// A receiver has an error at the last bit but one: it alone does not take the frame; at
// the last bit its flag is an error for the sender, and late for the others.
func TestErrorAtTheLastBitButOne(t *testing.T) {
	for _, f := range samples.Some() {
		s := samples.Acked(samples.Wire(f))
		b := newBus(given(t, api.Ctl{}, f), api.Ctl{}, api.Ctl{})
		b.steps(len(s) - 2)
		b.step(1)
		b.steps(1 + 17 + len(s))
		nothing, again := many("-", len(s)-2), many("-", 17+len(s)-2)
		want := []string{nothing + "-b" + again + "-s", nothing + "m-" + again + "t-", nothing + "to" + again + "t-"}
		if !slices.Equal(b.told, want) || b.row != s[:len(s)-1]+"d"+"dddddd"+many("r", 11)+s {
			t.Fatalf("%v: told is %q, not %q, and %q was on the bus", f, b.told, want, b.row)
		}
		if !samples.Are(b.sent[0], f) || !samples.Are(b.taken[1], f) || !samples.Are(b.taken[2], f, f) {
			t.Fatalf("%v: sent is %v, and taken %v", f, b.sent, b.taken)
		}
		for n, c := range []api.Conf{{TEC: 7}, {REC: 8}, {}} {
			if b.l[n].Conf != c {
				t.Fatalf("%v: controller %d has %v", f, n, b.l[n].Conf)
			}
		}
	}
}

// Flags upon flags: the flag of one receiver brings those of all others. Only the first
// one meets dominant bits behind its own.
func TestErrorsOfOneReceiver(t *testing.T) {
	f := own
	s := samples.Acked(samples.Wire(f))
	for _, x := range []struct {
		at   int      // the bit that is inverted
		told []string // from there on
		conf []api.Conf
	}{
		// At the delimiter of the check sum: a flag that begins in the acknowledgement
		// slot is met behind that.
		{len(s) - 10, []string{"--b", "m--", "--m"}, []api.Conf{{TEC: 7}, {REC: 8}, {}}},
		{len(s) - 5, []string{"-b-", "m--", "-m-"}, []api.Conf{{TEC: 7}, {REC: 8}, {}}},
	} {
		b := newBus(given(t, api.Ctl{}, f), api.Ctl{}, api.Ctl{})
		b.steps(x.at)
		b.step(1)
		b.steps(2)
		for n, want := range x.told {
			if got := b.told[n][x.at:]; got != want {
				t.Errorf("from bit %d on controller %d is told %q, not %q", x.at, n, got, want)
			}
		}
		b.steps(2 * len(s))
		for n, want := range x.conf {
			if got := b.l[n].Conf; got != want {
				t.Errorf("an error at bit %d: controller %d has %v, not %v", x.at, n, got, want)
			}
		}
		if !samples.Are(b.sent[0], f) || !samples.Are(b.taken[1], f) || !samples.Are(b.taken[2], f) {
			t.Errorf("an error at bit %d: sent is %v, and taken %v", x.at, b.sent, b.taken)
		}
	}
}

// Whatever is inverted: what is sent was given, is sent at most once for each time that
// it was given, and stays given until it is.
func TestSentIsWhatWasGiven(t *testing.T) {
	frames := samples.Right()
	sent := 0
	for seed := range uint64(60) {
		r := rand.New(rand.NewPCG(seed, 88))
		b := newBus(make([]api.Ctl, 2+r.IntN(4))...)
		faults := []int{10, 30, 100, 1000}[seed%4]
		for range 1500 {
			has := make([]*api.Frame, len(b.l))
			for i, c := range b.l {
				if !c.Has && r.IntN(100) == 0 {
					f := frames[r.IntN(len(frames))]
					b.l[i] = given(t, c, f)
				}
				if c := b.l[i]; c.Has {
					has[i] = &c.Give
				}
			}
			var turned []int
			for i := range b.l {
				if r.IntN(faults) == 0 {
					turned = append(turned, i)
				}
			}
			b.step(turned...)
			for i, c := range b.l {
				is := strings.HasSuffix(b.told[i], "s")
				switch {
				case is && (has[i] == nil || c.Has || !samples.Are(b.sent[i], *has[i])):
					t.Fatalf("controller %d has sent %v", i, b.sent[i])
				case !is && (c.Has != (has[i] != nil) || c.Has && !samples.Same(c.Give, *has[i]) || len(b.sent[i]) > 0):
					t.Fatalf("controller %d is told %q, and is %+v", i, b.told[i][len(b.told[i])-1:], c)
				case is:
					sent++
				}
				b.sent[i] = nil
			}
		}
	}
	if sent < 100 {
		t.Errorf("%d frames were sent", sent)
	}
}
