package ctl_test

import (
	"fmt"
	"iter"
	"math/rand/v2"
	"strings"
	"testing"

	"jackstay/api"
	"jackstay/ctl"
	"jackstay/rows"
	"jackstay/samples"
	"jackstay/stuff"
	"jackstay/take"
)

// story tells what should become of a controller in another way than it does: as parts
// that go on, bit after bit, to their ends, with counters that are plain numbers, and
// with rows of bits instead of what is left of them.
type story struct {
	tec, rec int
	off      bool
	run      int // bits while it is off
	times    int
	has      bool
	give     api.Frame
	sender   bool
	error    bool

	own    api.Ctl    // what belongs to the phase alone
	drive  bool       // what it drives at the next bit
	bit    bool       // that bit
	happen api.Happen // what happened with the last one

	next func() (bool, bool)
	stop func()
	wait func(bool) bool
}

// part is a part of a story; it tells the next one at its end.
type part func() part

// newStory is one from counters on.
func newStory(c api.Conf) *story {
	s := &story{tec: c.TEC, rec: c.REC, off: c.Off, run: c.Run, times: c.Times}
	s.next, s.stop = iter.Pull(func(yield func(bool) bool) {
		defer func() {
			if r := recover(); r != nil && r != any(s) {
				panic(r)
			}
		}()
		s.wait = yield
		next := s.idle
		if s.off {
			next = s.away
		}
		for {
			next = next()
		}
	})
	s.next()
	return s
}

// now is what the controller should be ahead of the next bit.
func (s *story) now() api.Ctl {
	c := s.own
	c.Conf = api.Conf{TEC: s.tec, REC: s.rec, Off: s.off, Run: s.run, Times: s.times}
	c.Has, c.Give = s.has, s.give
	c.Sender, c.Error = s.sender, s.error
	return c
}

// drives is what it should drive at the next bit.
func (s *story) drives() bool {
	if s.own.Phase == api.PhaseIdle {
		return !s.has
	}
	return s.drive
}

// sample goes on with a bit.
func (s *story) sample(bit bool) api.Happen {
	s.bit = bit
	s.next()
	return s.happen
}

// meet waits for the next bit.
func (s *story) meet(own api.Ctl, drive bool) bool {
	s.own, s.drive = own, drive
	if !s.wait(true) {
		panic(s)
	}
	s.happen = api.Happen{}
	return s.bit
}

func (s *story) says(what uint8) { s.happen.What = what }

func (s *story) active() bool  { return s.tec < 128 && s.rec < 128 }
func (s *story) passive() bool { return !s.active() }

// worse counts errors; it tells whether the controller is off.
func (s *story) worse(by, otherwise int) bool {
	if !s.sender {
		s.rec = min(s.rec+otherwise, 255)
		return false
	}
	s.tec += by
	if s.tec < 256 {
		return false
	}
	s.off, s.sender = true, false
	s.says(api.HapOff)
	return true
}

func (s *story) idle() part {
	for s.meet(api.Ctl{Phase: api.PhaseIdle}, true) {
		if s.has {
			s.sender = true
			return s.fails(api.HapBit)
		}
	}
	if s.has {
		return s.sending
	}
	return s.reading
}

// fails is an error.
func (s *story) fails(what uint8) part {
	active := s.active()
	s.says(what)
	if s.worse(8, 1) {
		return s.away
	}
	return s.flag(active, false)
}

// flag is an error's.
func (s *story) flag(active, owed bool) part {
	s.error = true
	if active {
		return s.strong(api.PhaseFlag)
	}
	return s.weak(owed)
}

func (s *story) over() part {
	s.says(api.HapOver)
	s.error = false
	return s.strong(api.PhaseOver)
}

func (s *story) strong(phase uint8) part {
	return func() part {
		for n := range 6 {
			if s.meet(api.Ctl{Phase: phase, N: n}, false) {
				s.says(api.HapBit)
				if s.worse(8, 8) {
					return s.away
				}
			}
		}
		return s.behind
	}
}

func (s *story) weak(owed bool) part {
	return func() part {
		row := ""
		for !strings.HasSuffix(row, "dddddd") && !strings.HasSuffix(row, "rrrrrr") {
			n := max(len(row)-len(strings.TrimRight(row, "d")), len(row)-len(strings.TrimRight(row, "r")))
			own := api.Ctl{Phase: api.PhaseWeak, N: n, Owed: owed}
			own.Row.Last = strings.HasSuffix(row, "r")
			bit := s.meet(own, true)
			row += rows.Text([]bool{bit})
			if owed && !bit {
				owed = false
				if s.worse(8, 0) {
					return s.away
				}
			}
		}
		return s.behind
	}
}

// behind is what is behind a flag.
func (s *story) behind() part {
	dominant := 0
	for !s.meet(api.Ctl{Phase: api.PhaseWait, N: dominant}, true) {
		dominant++
		if dominant == 1 && s.error && !s.sender {
			s.worse(0, 8)
		}
		if dominant%8 == 0 && s.worse(8, 8) {
			return s.away
		}
	}
	for recessive := 1; recessive < 8; recessive++ {
		if !s.meet(api.Ctl{Phase: api.PhaseDelim, N: recessive}, true) {
			if recessive == 7 {
				return s.over()
			}
			return s.fails(api.HapForm)
		}
	}
	return s.between
}

func (s *story) between() part {
	for n := range 2 {
		if !s.meet(api.Ctl{Phase: api.PhaseInter, N: n}, true) {
			return s.over()
		}
	}
	recessive := s.meet(api.Ctl{Phase: api.PhaseInter, N: 2}, true)
	held := s.sender && s.passive()
	switch {
	case recessive && held:
		return s.hold
	case recessive:
		return s.idle
	case s.has && !held:
		return s.sending
	}
	return s.reading
}

func (s *story) hold() part {
	for n := range 8 {
		if !s.meet(api.Ctl{Phase: api.PhaseHold, N: n}, true) {
			return s.reading
		}
	}
	return s.idle
}

func (s *story) away() part {
	for s.times < 128 {
		recessive := s.meet(api.Ctl{Phase: api.PhaseOff}, true)
		s.run++
		if !recessive {
			s.run = 0
		}
		s.times += s.run / 11
		s.run %= 11
	}
	s.tec, s.rec, s.off, s.times = 0, 0, false, 0
	s.says(api.HapOn)
	return s.idle
}

// reading is a frame from its second bit on, of which another node is the sender.
func (s *story) reading() part { return s.readOn("d") }

// readOn is the rest of a frame.
func (s *story) readOn(row string) part {
	s.sender = false
	state := taking(row)
	for {
		drive := take.Drive(state)
		bit := s.meet(api.Ctl{Phase: api.PhaseFrame, Take: state}, drive)
		next, said := take.Next(state, bit)
		state = next
		switch {
		case bit && !drive:
			return s.fails(api.HapBit)
		case said == api.TakeStuff:
			return s.fails(api.HapFill)
		case said == api.TakeForm:
			return s.fails(api.HapForm)
		case said == api.TakeSum:
			return s.fails(api.HapSum)
		case said == api.TakeGot && s.rec > 127:
			s.rec = 119
		case said == api.TakeGot && s.rec > 0:
			s.rec--
		case said == api.TakeLate:
			return s.over()
		case said == api.TakeOver:
			return s.between
		}
		if said == api.TakeGot {
			s.says(api.HapTook)
			s.happen.Frame, _ = take.Frame(state)
		}
	}
}

// sending is a frame from its second bit on.
func (s *story) sending() part {
	s.sender = true
	all := samples.Wire(s.give)
	contest := 12
	if s.give.Ext {
		contest = 32
	}
	row := "d"
	for {
		drive := all[len(row)] == 'r'
		own := api.Ctl{Phase: api.PhaseFrame, Sends: true, Wire: rows.Of(all), At: len(row), Take: taking(row)}
		bit := s.meet(own, drive)
		slot := len(row) == len(all)-9
		plain, _ := stuff.Take(rows.Of(row))
		five := strings.HasSuffix(row, "ddddd") || strings.HasSuffix(row, "rrrrr")
		row += rows.Text([]bool{bit})
		switch {
		case bit && slot && s.passive():
			s.says(api.HapAck)
			return s.flag(false, true)
		case bit && slot:
			return s.fails(api.HapAck)
		case slot:
		case bit == drive && len(row) == len(all):
			s.tec = max(s.tec-1, 0)
			s.happen = api.Happen{What: api.HapSent, Frame: s.give}
			s.has, s.give = false, api.Frame{}
			return s.between
		case bit == drive:
		case bit || len(plain) > contest:
			return s.fails(api.HapBit)
		case five:
			s.says(api.HapFill)
			return s.flag(s.active(), false)
		default:
			s.says(api.HapLost)
			return s.readOn(row)
		}
	}
}

// pair is a controller, and its story.
type pair struct {
	t     *testing.T
	c     api.Ctl
	s     *story
	trail strings.Builder
	seen  map[string]int // what was met: each happening, in each phase
}

// newPair is one from counters on.
func newPair(t *testing.T, c api.Conf) *pair {
	p := &pair{t: t, c: api.Ctl{Conf: c}, s: newStory(c), seen: map[string]int{}}
	if c.Off {
		p.c.Phase = api.PhaseOff
	}
	return p
}

// compare holds the controller to its story.
func (p *pair) compare() {
	p.t.Helper()
	if want := p.s.now(); !samples.SameCtl(p.c, want) {
		p.t.Fatalf("behind %q it is\n%+v, not\n%+v", p.trail.String(), p.c, want)
	}
	if got, want := ctl.Drive(p.c), p.s.drives(); got != want {
		p.t.Fatalf("behind %q, in\n%+v, Drive is %v", p.trail.String(), p.c, got)
	}
}

// step samples a bit.
func (p *pair) step(bit bool) {
	p.t.Helper()
	phase := p.c.Phase
	next, h := ctl.Step(p.c, bit)
	p.c = next
	p.trail.WriteString(rows.Text([]bool{bit}))
	want := p.s.sample(bit)
	if h.What != want.What || !samples.Same(h.Frame, want.Frame) {
		p.t.Fatalf("behind %q it is told %v, not %v", p.trail.String(), h, want)
	}
	p.seen[fmt.Sprint(phase, samples.Letters[h.What:h.What+1])]++
	p.compare()
}

// offer gives a frame, if the controller has none.
func (p *pair) offer(f api.Frame) {
	p.t.Helper()
	got, e := ctl.Give(p.c, f)
	if want := p.s.has; (e == api.ErrFull) != want || (e == api.OK) == want {
		p.t.Fatalf("behind %q Give is error %d", p.trail.String(), e)
	}
	if e == api.OK {
		p.c, p.s.has, p.s.give = got, true, f
		p.trail.WriteString(fmt.Sprintf("(gets %v)", f))
	}
	p.compare()
}

// drop takes the frame back, if that is possible.
func (p *pair) drop() {
	p.t.Helper()
	got, ok := ctl.Drop(p.c)
	if want := p.s.has && !p.s.own.Sends; ok != want {
		p.t.Fatalf("behind %q Drop is %v", p.trail.String(), ok)
	}
	p.c = got
	if ok {
		p.s.has, p.s.give = false, api.Frame{}
		p.trail.WriteString("(drops)")
	}
	p.compare()
}

// set sets the counters of a controller that is on.
func (p *pair) set(tec, rec int) {
	if p.s.off {
		return
	}
	p.c.Conf.TEC, p.c.Conf.REC = tec, rec
	p.s.tec, p.s.rec = tec, rec
	p.trail.WriteString(fmt.Sprintf("(is set to %d, %d)", tec, rec))
	p.compare()
}

// others are what the other nodes drive, for a while.
func others(r *rand.Rand) string {
	frames := samples.Some()
	s := samples.Wire(frames[r.IntN(len(frames))])
	switch r.IntN(9) {
	case 0, 1:
		return s
	case 2:
		return rows.Turned(s, r.IntN(len(s)))
	case 3:
		return s[:r.IntN(len(s))]
	case 4:
		return many("d", r.IntN(30))
	case 5:
		l := make([]bool, r.IntN(20))
		for i := range l {
			l[i] = r.IntN(2) == 0
		}
		return rows.Text(l)
	case 6:
		return samples.Acked(s)
	}
	return many("r", r.IntN(200))
}

// P8.1, P8.2: controllers among others, and faults, go on as their stories do.
func TestManyStories(t *testing.T) {
	seen := map[string]int{}
	frames := samples.Some()
	for seed := range uint64(150) {
		r := rand.New(rand.NewPCG(seed, 8))
		p := newPair(t, api.Conf{TEC: int(seed % 7 * 40), REC: int(seed % 5 * 60)})
		p.compare()
		for range 40 {
			if r.IntN(2) == 0 {
				p.offer(frames[r.IntN(len(frames))])
			}
			faults := []int{0, 0, 20, 200}[r.IntN(4)]
			acks := r.IntN(4) != 0
			bits := others(r)
			if p.s.off {
				bits += many("r", r.IntN(1500))
			}
			for _, bit := range rows.Of(bits) {
				bit = bit && ctl.Drive(p.c)
				if acks && p.c.Sends && p.c.At == len(p.c.Wire)-9 {
					bit = false
				}
				if faults > 0 && r.IntN(faults) == 0 {
					bit = !bit
				}
				p.step(bit)
				// An active flag is met with a great TEC no other way.
				if p.c.Phase == api.PhaseFlag && r.IntN(60) == 0 {
					p.set(248+r.IntN(8), r.IntN(256))
				}
				switch r.IntN(800) {
				case 0:
					p.drop()
				case 1:
					p.offer(frames[r.IntN(len(frames))])
				case 2:
					p.set(r.IntN(256), r.IntN(256))
				case 3:
					p.set(248+r.IntN(8), r.IntN(256))
				}
			}
		}
		p.s.stop()
		for what, n := range p.seen {
			seen[what] += n
		}
	}
	for _, what := range strings.Fields("0- 0b 0x 1- 1s 1t 1l 1b 1f 1m 1a 1c 1o 1x 2- 2b 2x 3- 3x 4- 4b 4x 5- 5x 6- 6m 6o 6x 7- 7o 8- 9- 9n") {
		if seen[what] == 0 {
			t.Errorf("in phase %s that does not happen (%s)", what[:1], what[1:])
		}
		delete(seen, what)
	}
	if len(seen) > 0 {
		t.Errorf("what should not happen does: %v", seen)
	}
}

// start brings a pair of a controller and its story to where it is tried, with a frame
// that it gets at first, or on the way.
type start struct {
	now         api.Conf
	first, late bool
	bits        string
}

// starts are some in all phases, of senders and others, active and passive.
func starts() []start {
	s, mine := samples.Acked(samples.Wire(other)), samples.Acked(samples.Wire(own))
	var l []start
	for _, now := range []api.Conf{{}, {TEC: 130}, {REC: 130}, {TEC: 250, REC: 250}} {
		for _, late := range []bool{false, true} {
			for _, bits := range []string{
				"", "r", s[:5], s[:len(s)-9], s[:len(s)-3], s, s + "rr", s + "rrrr",
				"dddddd", "dddddddd", "dddddd" + "dddddd", "dddddd" + "dddddd" + "ddddd",
				"dddddd" + "dddddd" + "rrrrr", "dddddd" + "dddddd" + "rrrrrrrr",
				"dddddd" + "dddddd" + "rrrrrrrr" + "d", "dddddd" + "dddddd" + "rrrrrrrr" + "d" + "dddddd",
			} {
				l = append(l, start{now: now, late: late, bits: bits})
			}
		}
		unheard := samples.Wire(own)[:len(mine)-9] + "r"
		for _, bits := range []string{
			"", "r", "ddr", mine[:5], mine[:19], mine[:len(mine)-9], mine[:len(mine)-2], mine, mine + "rr", mine + "rrr",
			unheard, unheard + "rrr", unheard + "rrrrrr", unheard + "rrrrrr" + "dddd", unheard + "rrrrrr" + many("r", 11), unheard + "rrrrrr" + many("r", 6),
			unheard + "dddddd" + "rrrr" + "d", unheard + "dddddd" + "rrrr" + "d" + "dddddd",
		} {
			l = append(l, start{now: now, first: true, bits: bits})
		}
	}
	for _, now := range []api.Conf{gone(256, 0), {TEC: 263, Off: true, Run: 9, Times: 127}, {TEC: 256, REC: 255, Off: true, Run: 10, Times: 3}} {
		l = append(l, start{now: now}, start{now: now, first: true})
	}
	return l
}

// P8.2: all short rows of bits, from there on.
func TestStoriesOfAllShortRows(t *testing.T) {
	for _, x := range starts() {
		for s := range rows.UpTo(7) {
			if len(s) < 7 {
				continue
			}
			p := newPair(t, x.now)
			if x.first {
				p.offer(own)
			}
			for _, bit := range rows.Of(x.bits) {
				p.step(bit)
			}
			if x.late {
				p.offer(own)
			}
			for _, bit := range rows.Of(s) {
				p.step(bit)
			}
			p.s.stop()
		}
	}
}
