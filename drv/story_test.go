package drv_test

import (
	"math/rand/v2"
	"slices"
	"strconv"
	"testing"

	"jackstay/api"
	"jackstay/ctl"
	"jackstay/drv"
	"jackstay/filter"
	"jackstay/frame"
	"jackstay/rows"
	"jackstay/samples"
)

// The chapter, told once more: without a mail and a fifo, by one sentence: a controller
// that is not sending has the best frame of those that wait.

// letter is a frame that waits.
type letter struct {
	number  int
	f       api.Frame
	aborted bool
}

// story is a driver's history.
type story struct {
	filters     []api.Filter
	mails, room int
	c           api.Ctl
	now, sends  int
	waits       []letter // by their numbers
	has         int      // the number of the one that the controller has; 0 if none
	came        []api.Rx
	overrun     bool
}

// settle makes the sentence true.
func (s *story) settle() {
	s.waits = slices.DeleteFunc(s.waits, func(w letter) bool {
		return w.aborted && !(s.c.Sends && w.number == s.has)
	})
	if s.c.Sends {
		return
	}
	s.has, s.c.Has, s.c.Give = 0, false, api.Frame{}
	for _, w := range s.waits {
		if s.has == 0 || frame.Before(w.f, s.c.Give) {
			s.has, s.c.Has, s.c.Give = w.number, true, w.f
		}
	}
}

// find is the place of a number that waits, or a negative one.
func (s *story) find(n int) int {
	return slices.IndexFunc(s.waits, func(w letter) bool { return w.number == n })
}

func (s *story) send(f api.Frame) (int, api.Errno) {
	switch {
	case !frame.Right(f):
		return 0, api.ErrFrame
	case len(s.waits) == s.mails:
		return 0, api.ErrFull
	}
	s.sends++
	s.waits = append(s.waits, letter{number: s.sends, f: f})
	s.settle()
	return s.sends, api.OK
}

func (s *story) abort(n int) (bool, api.Errno) {
	at := s.find(n)
	if at < 0 {
		return false, api.ErrMail
	}
	s.waits[at].aborted = true
	s.settle()
	return s.find(n) < 0, api.OK
}

func (s *story) read() (api.Rx, bool) {
	if len(s.came) == 0 {
		return api.Rx{}, false
	}
	x := s.came[0]
	s.came = s.came[1:]
	return x, true
}

func (s *story) clear() bool {
	was := s.overrun
	s.overrun = false
	return was
}

func (s *story) step(bit bool) api.Note {
	before := s.c.Phase
	c, h := ctl.Step(s.c, bit)
	s.c = c
	s.now++
	n := api.Note{}
	switch {
	case h.What == api.HapSent:
		n = api.Note{What: api.NoteSent, N: s.has, Frame: h.Frame}
		at := s.find(s.has)
		s.waits = slices.Delete(s.waits, at, at+1)
	case h.What == api.HapTook && !filter.Pass(s.filters, h.Frame):
	case h.What == api.HapTook && len(s.came) == s.room:
		n = api.Note{What: api.NoteLost, Frame: h.Frame}
		s.overrun = true
	case h.What == api.HapTook:
		n = api.Note{What: api.NoteTook, Frame: h.Frame}
		s.came = append(s.came, api.Rx{Frame: h.Frame, At: s.now - 1})
	case before != api.PhaseOff && c.Phase == api.PhaseOff:
		n.What = api.NoteOff
	case before == api.PhaseOff && c.Phase != api.PhaseOff:
		n.What = api.NoteOn
	}
	s.settle()
	return n
}

// pair is a driver and its story, and how often each thing was told; what is the run.
type pair struct {
	what string
	d    *drv.Drv
	s    story
	told [len(letters)]int
}

func newPair(t *testing.T, what string, filters []api.Filter, mails, room int) *pair {
	t.Helper()
	return &pair{what: what, d: made(t, filters, mails, room), s: story{filters: filters, mails: mails, room: room}}
}

// send sends a frame in both.
func (p *pair) send(t *testing.T, f api.Frame) {
	t.Helper()
	n, e := p.d.Send(f)
	if want, says := p.s.send(f); n != want || e != says {
		t.Fatalf("%s: Send of %v is %d, error %d, not %d, error %d", p.what, f, n, e, want, says)
	}
	p.compare(t)
}

// abort aborts a number in both.
func (p *pair) abort(t *testing.T, n int) {
	t.Helper()
	gone, e := p.d.Abort(n)
	if want, says := p.s.abort(n); gone != want || e != says {
		t.Fatalf("%s: Abort(%d) is %v, error %d, not %v, error %d", p.what, n, gone, e, want, says)
	}
	p.compare(t)
}

// read reads in both, and clears the flag.
func (p *pair) read(t *testing.T) {
	t.Helper()
	x, ok := p.d.Read()
	if want, is := p.s.read(); ok != is || x.At != want.At || !samples.Same(x.Frame, want.Frame) {
		t.Fatalf("%s: Read is %v, %v, not %v, %v", p.what, x, ok, want, is)
	}
	p.compare(t)
}

// clear clears the flag in both.
func (p *pair) clear(t *testing.T) {
	t.Helper()
	if was, want := p.d.Clear(), p.s.clear(); was != want {
		t.Fatalf("%s: Clear is %v", p.what, was)
	}
	p.compare(t)
}

// step is a bit of both.
func (p *pair) step(t *testing.T, bit bool) {
	t.Helper()
	n := p.d.Step(bit)
	if want := p.s.step(bit); !same(n, want) {
		t.Fatalf("%s: Step to %d is %v, not %v", p.what, p.s.now, n, want)
	}
	p.told[n.What]++
	p.compare(t)
}

// compare holds what can be asked of the driver to its story.
func (p *pair) compare(t *testing.T) {
	t.Helper()
	c := p.d.Ctl()
	if !samples.SameCtl(c, p.s.c) || p.d.Drive() != ctl.Drive(p.s.c) {
		t.Fatalf("%s: at %d the controller is\n%+v, not\n%+v; it drives %v", p.what, p.s.now, c, p.s.c, p.d.Drive())
	}
	if now := p.d.Now(); now != p.s.now {
		t.Fatalf("%s: the time is %d, not %d", p.what, now, p.s.now)
	}
	if out, in := p.d.Fill(); out != len(p.s.waits) || in != len(p.s.came) {
		t.Fatalf("%s: at %d Fill is %d, %d, not %d, %d", p.what, p.s.now, out, in, len(p.s.waits), len(p.s.came))
	}
	if set := p.d.Overrun(); set != p.s.overrun {
		t.Fatalf("%s: at %d Overrun is %v", p.what, p.s.now, set)
	}
	for n := p.s.sends - 10; n <= p.s.sends+1; n++ {
		if is := p.d.Waits(n); is != (p.s.find(n) >= 0) {
			t.Fatalf("%s: at %d of %v waits %d: %v", p.what, p.s.now, p.s.waits, n, is)
		}
	}
}

// stepAll is a bit of drivers on a bus; those that are turned sample it inverted.
func stepAll(t *testing.T, l []*pair, turned ...int) {
	t.Helper()
	bit := true
	for _, p := range l {
		bit = bit && p.d.Drive()
	}
	for i, p := range l {
		p.step(t, bit != slices.Contains(turned, i))
	}
}

// All short runs of two drivers: a and b send frames of one key, c a better one; o is the
// other one's, which is in between; a number is aborted; a dot is a bit, an exclamation
// mark one that is turned; e are many bits; r reads, and clears the flag.
func TestAllShortRuns(t *testing.T) {
	const moves, long = "abco123.!er", 4
	for run := range rows.Lists([]byte(moves), long) {
		if len(run) < long {
			continue
		}
		what := string(run)
		l := []*pair{newPair(t, what, []api.Filter{{Mask: 1}}, 2, 1), newPair(t, what, nil, 3, 3)}
		for _, move := range run {
			short(t, l, move)
		}
	}
}

// short is one move of a short run.
func short(t *testing.T, l []*pair, move byte) {
	t.Helper()
	switch move {
	case 'a', 'b':
		l[0].send(t, with(5, move))
	case 'c':
		l[0].send(t, base(3))
	case 'o':
		l[1].send(t, base(4))
	case '.':
		stepAll(t, l)
	case '!':
		stepAll(t, l, 0)
	case 'e':
		for range 60 {
			stepAll(t, l)
		}
	case 'r':
		l[0].read(t)
		l[0].clear(t)
	default:
		l[0].abort(t, int(move-'0'))
	}
}

// Long runs of up to six drivers, with few turned bits, and with many, so that
// controllers go off, and are on again.
func TestLongRuns(t *testing.T) {
	var told [len(letters)]int
	for seed := range uint64(36) {
		r := rand.New(rand.NewPCG(seed, 14))
		var l []*pair
		for range 1 + seed%6 {
			var filters []api.Filter
			for range r.IntN(3) {
				filters = append(filters, api.Filter{Ext: r.IntN(2) == 0, Mask: 1, Match: r.Uint32N(2)})
			}
			l = append(l, newPair(t, "run "+strconv.Itoa(int(seed)), filters, 1+r.IntN(6), 1+r.IntN(4)))
		}
		long(t, r, l, []int{2000, 200, 8}[seed/6%3])
		for _, p := range l {
			for i, n := range p.told {
				told[i] += n
			}
		}
	}
	for i, n := range told {
		if n < 20 {
			t.Errorf("%q is told %d times", letters[i], n)
		}
	}
}

// long lets drivers do this and that; of so many bits one is turned, for the one that
// sends, mostly. Then no bit is; and at last nothing more is done, so that those that are
// off are on again.
func long(t *testing.T, r *rand.Rand, l []*pair, rate int) {
	t.Helper()
	right := append(samples.Some(), with(0x123, 1), with(0x123, 2), base(0x17), base(0x17))
	wrong := samples.Wrong()
	for k := range 5500 {
		if k < 3500 {
			deed(t, r, l[r.IntN(len(l))], right, wrong)
		}
		if k > 2500 || r.IntN(rate) > 0 {
			stepAll(t, l)
			continue
		}
		turned := slices.IndexFunc(l, func(p *pair) bool { return p.s.c.Sends })
		if turned < 0 || r.IntN(4) == 0 {
			turned = r.IntN(len(l))
		}
		stepAll(t, l, turned)
	}
}

// deed is now and then one of the calls beside Step, with a right frame, or a wrong one.
func deed(t *testing.T, r *rand.Rand, p *pair, right, wrong []api.Frame) {
	t.Helper()
	switch r.IntN(60) {
	case 0, 1:
		p.send(t, right[r.IntN(len(right))])
	case 2:
		p.abort(t, p.s.sends-r.IntN(p.s.mails+2)+1)
	case 3:
		p.read(t)
	case 4:
		p.clear(t)
	case 5:
		p.send(t, wrong[r.IntN(len(wrong))])
	}
}
