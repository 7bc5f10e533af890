package ctl_test

import (
	"bytes"
	"math"
	"math/rand/v2"
	"slices"
	"testing"

	"jackstay/api"
	"jackstay/ctl"
	"jackstay/rows"
	"jackstay/samples"
)

// The rules that hold everywhere, R1 to R7, as far as they touch this layer. It has no
// objects (R5), and no texts; counts and places that are beyond their ends are R7's
// wrong inputs, in controllers of which nothing is promised but that each call returns.

// pick is one of l.
func pick[T any](r *rand.Rand, l ...T) T { return l[r.IntN(len(l))] }

// strange is a controller that may be of any kind, mostly such as no bits lead to; s
// are bits of a frame.
func strange(r *rand.Rand, frames []api.Frame, s []bool) api.Ctl {
	ends := []int{math.MinInt, -9, -1, 0, 1, 2, 5, 6, 7, 8, 11, 12, 45, 46, 255, 256, 263, math.MaxInt}
	flag := func() bool { return r.IntN(2) == 0 }
	cut := r.IntN(len(s))
	return api.Ctl{
		Phase: pick(r, 0, 1, 1, 1, 2, 3, 4, 5, 6, 7, 8, 9, 10, 11, 128, 255, uint8(r.IntN(256))),
		N:     pick(r, ends...),
		Conf:  api.Conf{TEC: pick(r, ends...), REC: pick(r, ends...), Off: r.IntN(4) == 0, Run: pick(r, 0, 0, pick(r, ends...)), Times: pick(r, 0, 0, 127, pick(r, ends...))},
		Has:   flag(), Give: pick(r, frames...), Sends: flag(), Sender: flag(),
		Wire: pick(r, nil, s, s[:cut]), At: pick(r, pick(r, ends...), cut),
		Take: api.Taking{
			Row:  api.Alike{Last: flag(), Many: pick(r, 0, 1, 5, 6, uint8(r.IntN(256)))},
			Bits: pick(r, nil, s, s[:cut], make([]bool, 1000)), Place: pick(r, 0, uint8(r.IntN(13)), uint8(r.IntN(256))), Fits: flag(),
		},
		Row: api.Alike{Last: flag(), Many: uint8(r.IntN(256))}, Error: flag(), Owed: flag(),
	}
}

// R1, R7: every call returns, whatever the controller is; and so do all that follow.
func TestEveryControllerHasAResult(t *testing.T) {
	r := rand.New(rand.NewPCG(1, 88))
	frames := append(samples.Right(), samples.Wrong()...)
	s := rows.Of(samples.Wire(own))
	for range 30000 {
		c := strange(r, frames, s)
		before := copied(c)
		for range 3 {
			ctl.Drive(c)
			if _, ok := ctl.Drop(c); ok && (!c.Has || c.Sends) {
				t.Fatalf("Drop of %+v is true", c)
			}
			if got, e := ctl.Give(c, pick(r, frames...)); e != api.OK && (e != api.ErrFrame && e != api.ErrFull || !samples.SameCtl(got, api.Ctl{})) {
				t.Fatalf("Give of %+v is %+v, error %d", c, got, e)
			}
			next, h := ctl.Step(c, r.IntN(2) == 0)
			if h.What > api.HapOn || h.What != api.HapSent && h.What != api.HapTook && !samples.Same(h.Frame, api.Frame{}) {
				t.Fatalf("Step of %+v is told %v", c, h)
			}
			if !samples.SameCtl(c, before) {
				t.Fatalf("the argument has become\n%+v, and was\n%+v", c, before)
			}
			c, before = next, copied(next)
		}
	}
}

// R1: phases that are none do nothing.
func TestPhasesThatAreNone(t *testing.T) {
	for phase := int(api.PhaseOff) + 1; phase < 256; phase++ {
		c := api.Ctl{Phase: uint8(phase), N: 3, Has: true, Give: own, Error: true}
		for _, bit := range []bool{true, false} {
			if got, h := ctl.Step(c, bit); !samples.SameCtl(got, c) || h.What != api.HapNone || !samples.Same(h.Frame, api.Frame{}) {
				t.Fatalf("Step in phase %d is %+v, %v", phase, got, h)
			}
		}
		if !ctl.Drive(c) {
			t.Fatalf("Drive in phase %d is dominant", phase)
		}
	}
}

// R2: calls with an error, and with a false, change nothing for those that follow.
func TestErrorsChangeNothing(t *testing.T) {
	c := given(t, api.Ctl{}, own)
	s := samples.Acked(samples.Wire(own))
	for k := range len(s) {
		if _, e := ctl.Give(c, other); e != api.ErrFull {
			t.Fatalf("behind %d bits a second Give is error %d", k, e)
		}
		if _, e := ctl.Give(c, api.Frame{ID: 1 << 11}); e != api.ErrFrame {
			t.Fatalf("behind %d bits Give of a wrong frame is error %d", k, e)
		}
		if got, ok := ctl.Drop(c); ok != (k == 0) || !ok && !samples.SameCtl(got, c) {
			t.Fatalf("behind %d bits Drop is %+v, %v", k, got, ok)
		}
		c = after(c, s[k:k+1])
	}
	if want := (api.Ctl{Phase: api.PhaseInter, Sender: true}); !samples.SameCtl(c, want) {
		t.Errorf("it is\n%+v, not\n%+v", c, want)
	}
}

// copied is c in other memory.
func copied(c api.Ctl) api.Ctl {
	c.Give.Data = bytes.Clone(c.Give.Data)
	c.Wire, c.Take.Bits = slices.Clone(c.Wire), slices.Clone(c.Take.Bits)
	return c
}

// within are controllers at all bits of some frames, which they read or send, and
// behind an error, with room behind their slices.
func within(t *testing.T) []api.Ctl {
	t.Helper()
	var l []api.Ctl
	add := func(c api.Ctl, s string) {
		for k := range len(s) {
			l = append(l, samples.RoomyCtl(c))
			c = after(c, s[k:k+1])
		}
		l = append(l, samples.RoomyCtl(c))
	}
	mine := samples.Made(0x155, false, false, 3)
	s, foreign := samples.Acked(samples.Wire(mine)), samples.Acked(samples.Wire(samples.Made(0x100, true, false, 2)))
	add(given(t, api.Ctl{}, mine), s+"rrr")
	add(given(t, api.Ctl{}, mine), foreign+"rrr"+s)
	add(given(t, api.Ctl{}, mine), s[:30]+rows.Turned(s, 30)[30:31]+"ddddddddrrr")
	add(given(t, with(api.Ctl{}, 250, 0), mine), "r"+"rrrr")
	add(given(t, with(api.Ctl{}, 130, 0), mine), rows.Turned(s, len(s)-9)[:len(s)-8]+"rrrrrrrrr")
	add(api.Ctl{}, foreign+"dd")
	add(api.Ctl{}, "dddddddddddddrrd")
	for _, c := range places() {
		l = append(l, samples.RoomyCtl(c), samples.RoomyCtl(given(t, c, mine)))
	}
	return l
}

// results are all controllers, and the frame, that calls with c return.
func results(t *testing.T, c api.Ctl, f api.Frame) ([]api.Ctl, api.Frame) {
	t.Helper()
	one, h := ctl.Step(c, true)
	other, g := ctl.Step(c, false)
	if h.What == api.HapNone {
		h = g
	}
	without, _ := ctl.Drop(c)
	l := []api.Ctl{one, other, without}
	if !c.Has {
		l = append(l, given(t, c, f))
	}
	return l, h.Frame
}

// R3: arguments stay as they are, and so does what is behind their ends.
func TestArgumentsStayAsTheyAre(t *testing.T) {
	f := samples.Roomy(samples.Made(5, false, false, 8))
	data := bytes.Clone(f.Data[:cap(f.Data)])
	for _, c := range within(t) {
		before := copied(samples.WholeCtl(c))
		ctl.Drive(c)
		l, sent := results(t, c, f)
		if !samples.SameCtl(samples.WholeCtl(c), before) || !bytes.Equal(f.Data[:cap(f.Data)], data) {
			t.Fatalf("the memory of\n%+v was\n%+v", samples.WholeCtl(c), before)
		}
		// Nor do they change with what is returned.
		for _, got := range l {
			samples.SpoilCtl(got)
		}
		clear(sent.Data[:cap(sent.Data)])
		if !samples.SameCtl(samples.WholeCtl(c), before) || !bytes.Equal(f.Data[:cap(f.Data)], data) {
			t.Fatalf("a result shares memory with its argument\n%+v, which was\n%+v", samples.WholeCtl(c), before)
		}
	}
}

// R3: results stay as they are, whatever becomes of arguments, and of other results.
func TestResultsAreNew(t *testing.T) {
	for _, c := range within(t) {
		f := samples.Made(5, false, false, 8)
		l, sent := results(t, c, f)
		var kept []api.Ctl
		for _, got := range l {
			kept = append(kept, copied(got))
		}
		data := bytes.Clone(sent.Data)
		samples.SpoilCtl(c)
		clear(f.Data)
		for i := range l {
			if !samples.SameCtl(l[i], kept[i]) {
				t.Fatalf("result %d has become\n%+v, and was\n%+v", i, l[i], kept[i])
			}
			samples.SpoilCtl(l[i])
		}
		if !bytes.Equal(sent.Data, data) {
			t.Fatalf("the frame that was told has become %v, and was %v", sent, data)
		}
		samples.SpoilCtl(c)
	}
}

// R4: results hang on the arguments alone: not on the calls before, nor on other
// controllers that go on at the same time.
func TestResultsHangOnArgumentsAlone(t *testing.T) {
	l := within(t)
	var wanted []api.Ctl
	for _, c := range l {
		wanted = append(wanted, after(c, "rdrrd"))
	}
	slices.Reverse(l)
	slices.Reverse(wanted)
	for k := range len("rdrrd") {
		for i := range l {
			l[i] = after(l[i], "rdrrd"[k:k+1])
		}
	}
	for i := range l {
		if !samples.SameCtl(l[i], wanted[i]) {
			t.Fatalf("among others it is\n%+v, not\n%+v", l[i], wanted[i])
		}
	}
}

// R4: nor on a capacity.
func TestCapacityDoesNotMatter(t *testing.T) {
	for _, c := range within(t) {
		tight := c
		tight.Give.Data, tight.Wire, tight.Take.Bits = slices.Clip(tight.Give.Data), slices.Clip(tight.Wire), slices.Clip(tight.Take.Bits)
		l, f := results(t, c, own)
		k, g := results(t, tight, own)
		if !slices.EqualFunc(l, k, samples.SameCtl) || !samples.Same(f, g) || ctl.Drive(c) != ctl.Drive(tight) {
			t.Fatalf("without room it is\n%+v, not\n%+v", k, l)
		}
	}
}

// R6: no bits, and no data, are as good as nil.
func TestEmptyIsNil(t *testing.T) {
	empty := func(c api.Ctl) api.Ctl {
		for _, l := range []*[]bool{&c.Wire, &c.Take.Bits} {
			if len(*l) == 0 {
				*l = []bool{}
			}
		}
		if len(c.Give.Data) == 0 {
			c.Give.Data = []byte{}
		}
		return c
	}
	for _, c := range within(t) {
		for _, s := range []string{"rr", "rd", "dr", "dd"} {
			one, said := run(c, s)
			other, again := run(empty(c), s)
			if !samples.SameCtl(one, other) || said != again {
				t.Fatalf("with empty slices it is\n%+v, not\n%+v", other, one)
			}
		}
	}
	none := given(t, api.Ctl{}, api.Frame{ID: 1, Data: []byte{}})
	s := samples.Acked(samples.Wire(api.Frame{ID: 1}))
	if got, said := run(none, s); said != many("-", len(s)-1)+"s" || got.Has {
		t.Errorf("a frame with empty data is told %q, and is %+v", said, got)
	}
	if _, e := ctl.Give(api.Ctl{}, api.Frame{ID: 1, Remote: true, Dlc: 5, Data: []byte{}}); e != api.OK {
		t.Errorf("Give of a remote frame with empty data is error %d", e)
	}
}
