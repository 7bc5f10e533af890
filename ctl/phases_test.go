package ctl_test

import (
	"fmt"
	"testing"

	"jackstay/api"
	"jackstay/ctl"
	"jackstay/rows"
	"jackstay/samples"
)

// P8.2: Step, phase by phase.

// row is a row of bits, and what should come of it.
type row struct {
	bits, says string
	want       api.Ctl
}

// checkRows samples the bits of all rows, each from the same controller on.
func checkRows(t *testing.T, what string, from api.Ctl, l []row) {
	t.Helper()
	for _, x := range l {
		got, said := run(from, x.bits)
		check(t, what+", and "+x.bits, got, said, x.want, x.says)
	}
}

// frames of which much is tried: what a controller has, and what it meets.
var (
	own   = api.Frame{ID: 0x2aa, Dlc: 1, Data: []byte{0x55}}
	other = api.Frame{ID: 1}
)

// counters are those at the edges of active, passive, and off.
func counters() []api.Conf {
	return []api.Conf{
		{}, {TEC: 1}, {REC: 1}, {TEC: 119, REC: 119}, {TEC: 120}, {TEC: 127, REC: 127}, {REC: 127},
		{TEC: 128}, {REC: 128}, {TEC: 247, REC: 254}, {TEC: 248}, {TEC: 255, REC: 255}, {REC: 255}, {TEC: 248, REC: 128},
	}
}

// passive reports whether counters are a passive controller's.
func passive(c api.Conf) bool { return c.TEC > 127 || c.REC > 127 }

// more are counters that have grown.
func more(c api.Conf, tec, rec int) api.Conf {
	c.TEC += tec
	c.REC = min(c.REC+rec, 255)
	c.Off = c.TEC > 255
	return c
}

// failed is the controller behind an error, and its letter: before are its counters, and
// from is what it has. By its mode before it drives a flag, or waits for one.
func failed(from api.Ctl, before, now api.Conf, letter string) (api.Ctl, string) {
	c := api.Ctl{Phase: api.PhaseFlag, Conf: now, Has: from.Has, Give: from.Give, Sender: from.Sender, Error: true}
	switch {
	case now.Off:
		c.Phase, c.Sender, c.Error = api.PhaseOff, false, from.Error
		return c, "x"
	case passive(before):
		c.Phase = api.PhaseWeak
	}
	return c, letter
}

func TestIdle(t *testing.T) {
	for _, now := range counters() {
		for _, was := range []bool{false, true} {
			for _, flagged := range []bool{false, true} {
				what := fmt.Sprintf("idle with %v, was the sender %v, flag %v", now, was, flagged)
				from := api.Ctl{Conf: now, Sender: was, Error: flagged}
				begun := api.Ctl{Phase: api.PhaseFrame, Conf: now, Error: flagged, Take: taking("d")}
				checkRows(t, what, from, []row{{"r", "-", from}, {"rrrrr", "-----", from}, {"d", "-", begun}, {"rrd", "---", begun}})
				// With a frame it starts, and is the sender.
				from = given(t, from, own)
				begun.Has, begun.Give = true, own
				begun.Sends, begun.Sender, begun.Wire, begun.At = true, true, rows.Of(samples.Wire(own)), 1
				from.Sender = true
				wrong, letter := failed(from, now, more(now, 8, 0), "b")
				from.Sender = was
				checkRows(t, what+", with a frame", from, []row{{"d", "-", begun}, {".", "-", begun}, {"r", letter, wrong}})
			}
		}
	}
}

// flags yields the flags that are driven: of which phase, and whose.
func flags(now api.Conf, visit func(what string, c api.Ctl)) {
	for _, phase := range []uint8{api.PhaseFlag, api.PhaseOver} {
		for _, sender := range []bool{false, true} {
			c := api.Ctl{Phase: phase, Conf: now, Has: true, Give: own, Sender: sender, Error: phase == api.PhaseFlag}
			visit(fmt.Sprintf("flag of phase %d with %v, sender %v", phase, now, sender), c)
		}
	}
}

func TestFlags(t *testing.T) {
	flags(api.Conf{TEC: 3, REC: 5}, func(what string, from api.Ctl) {
		for n := range 6 {
			from.N = n
			// All that is left of it.
			want := from
			want.Phase, want.N = api.PhaseWait, 0
			checkRows(t, what, from, []row{{many("d", 6-n), many("-", 6-n), want}, {many(".", 6-n), many("-", 6-n), want}})
			// One bit of it.
			if n < 5 {
				want = from
				want.N = n + 1
			}
			checkRows(t, what, from, []row{{"d", "-", want}})
			if want.Sender {
				want.Conf = api.Conf{TEC: 11, REC: 5}
			} else {
				want.Conf = api.Conf{TEC: 3, REC: 13}
			}
			checkRows(t, what, from, []row{{"r", "b", want}})
		}
	})
}

// Bits of a flag that are not sampled as they are driven are counted, each one.
func TestFlagsThatAreNotHeard(t *testing.T) {
	for _, now := range counters() {
		flags(now, func(what string, from api.Ctl) {
			want, letter := from, "b"
			want.N = 1
			if from.Sender {
				want.Conf = more(now, 8, 0)
			} else {
				want.Conf = more(now, 0, 8)
			}
			if want.Conf.Off {
				want.Phase, want.N, want.Sender, letter = api.PhaseOff, 0, false, "x"
			}
			checkRows(t, what, from, []row{{"r", letter, want}})
		})
	}
	flags(api.Conf{TEC: 200, REC: 200}, func(what string, from api.Ctl) {
		want := from
		want.Phase, want.Conf = api.PhaseWait, api.Conf{TEC: 248, REC: 200}
		if !from.Sender {
			want.Conf = api.Conf{TEC: 200, REC: 248}
		}
		checkRows(t, what, from, []row{{"rrrrrr", "bbbbbb", want}})
		want.Conf = more(from.Conf, 0, 16)
		if from.Sender {
			want.Conf = more(from.Conf, 16, 0)
		}
		checkRows(t, what, from, []row{{"rddrdd", "b--b--", want}})
	})
	// It goes off with the last bit, too.
	flags(api.Conf{TEC: 250}, func(what string, from api.Ctl) {
		if from.Sender {
			want := api.Ctl{Phase: api.PhaseOff, Conf: gone(258, 0), Has: true, Give: own, Error: from.Error}
			checkRows(t, what, from, []row{{"dddddr", "-----x", want}})
		}
	})
}

func TestWeakFlags(t *testing.T) {
	for _, sender := range []bool{false, true} {
		from := api.Ctl{Phase: api.PhaseWeak, Conf: api.Conf{TEC: 130, REC: 7}, Has: true, Give: own, Sender: sender, Error: true}
		in := func(n int, last bool) api.Ctl {
			c := from
			c.N, c.Row.Last = n, last
			return c
		}
		done := from
		done.Phase = api.PhaseWait
		checkRows(t, fmt.Sprint("weak flag, sender ", sender), from, []row{
			{"d", "-", in(1, false)},
			{"r", "-", in(1, true)},
			{"dd", "--", in(2, false)},
			{"dr", "--", in(1, true)},
			{"rd", "--", in(1, false)},
			{"rr", "--", in(2, true)},
			{"rrrrr", "-----", in(5, true)},
			{"ddddd", "-----", in(5, false)},
			{"rrrrrd", "------", in(1, false)},
			{"dddddr", "------", in(1, true)},
			{"rdrdrdrd", "--------", in(1, false)},
			{"rrrrrddddd", "----------", in(5, false)},
			{"rrrrrr", "------", done},
			{"dddddd", "------", done},
			{"rrrrrdddddd", "-----------", done},
			{"dddddrrrrrr", "-----------", done},
			{"drrrrrr", "-------", done},
		})
	}
}

// An error that is owed is counted with the first dominant bit, and with no other.
func TestWeakFlagsThatOwe(t *testing.T) {
	from := api.Ctl{Phase: api.PhaseWeak, Conf: api.Conf{TEC: 130, REC: 7}, Has: true, Give: own, Sender: true, Error: true, Owed: true}
	in := func(tec, n int, last, owed bool) api.Ctl {
		c := from
		c.Conf.TEC, c.N, c.Row.Last, c.Owed = tec, n, last, owed
		return c
	}
	done := func(tec int) api.Ctl {
		c := from
		c.Phase, c.Conf.TEC, c.Owed = api.PhaseWait, tec, false
		return c
	}
	checkRows(t, "weak flag that owes", from, []row{
		{"r", "-", in(130, 1, true, true)},
		{"rrrrr", "-----", in(130, 5, true, true)},
		{"rrrrrr", "------", done(130)},
		{"d", "-", in(138, 1, false, false)},
		{"dd", "--", in(138, 2, false, false)},
		{"rrrrrd", "------", in(138, 1, false, false)},
		{"rdrd", "----", in(138, 1, false, false)},
		{"dddddd", "------", done(138)},
		{"drrrrrr", "-------", done(138)},
		{"rrrdddrrrrrr", "------------", done(138)},
	})
	for tec, off := range map[int]bool{247: false, 248: true, 255: true} {
		want, letter := in(tec+8, 1, false, false), "-"
		if off {
			want, letter = api.Ctl{Phase: api.PhaseOff, Conf: gone(tec+8, 7), Has: true, Give: own, Error: true}, "x"
		}
		checkRows(t, fmt.Sprint("weak flag that owes with TEC ", tec), in(tec, 0, false, true), []row{{"d", letter, want}})
		checkRows(t, fmt.Sprint("weak flag that owes with TEC ", tec), in(tec, 5, true, true), []row{{"d", letter, want}})
		checkRows(t, fmt.Sprint("weak flag that does not owe with TEC ", tec), in(tec, 0, false, false), []row{{"d", "-", in(tec, 1, false, false)}})
	}
}

func TestWait(t *testing.T) {
	for _, x := range []struct {
		sender, flagged bool
		first, eighth   [2]int // by what TEC and REC grow with the first bit, and with each eighth one
	}{
		{false, false, [2]int{0, 0}, [2]int{0, 8}},
		{false, true, [2]int{0, 8}, [2]int{0, 8}},
		{true, false, [2]int{0, 0}, [2]int{8, 0}},
		{true, true, [2]int{0, 0}, [2]int{8, 0}},
	} {
		from := api.Ctl{Phase: api.PhaseWait, Conf: api.Conf{TEC: 40, REC: 50}, Has: true, Give: own, Sender: x.sender, Error: x.flagged}
		what := fmt.Sprintf("behind a flag, sender %v, flag %v", x.sender, x.flagged)
		for n := range 70 {
			want := from
			want.N = n
			if n > 0 {
				want.Conf = more(want.Conf, x.first[0], x.first[1])
			}
			want.Conf = more(want.Conf, n/8*x.eighth[0], n/8*x.eighth[1])
			checkRows(t, what, from, []row{{many("d", n), many("-", n), want}})
			want.Phase, want.N = api.PhaseDelim, 1
			checkRows(t, what, from, []row{{many("d", n) + "r", many("-", n+1), want}})
		}
	}
}

// Dominant bits that go on bring a sender off, and a receiver never.
func TestWaitTooLong(t *testing.T) {
	for _, flagged := range []bool{false, true} {
		for tec, many8 := range map[int]int{255: 1, 248: 1, 247: 2, 240: 2, 200: 7} {
			from := api.Ctl{Phase: api.PhaseWait, Conf: api.Conf{TEC: tec}, Has: true, Give: own, Sender: true, Error: flagged}
			want := api.Ctl{Phase: api.PhaseOff, Conf: gone(tec+8*many8, 0), Has: true, Give: own, Error: flagged}
			checkRows(t, fmt.Sprint("a sender with TEC ", tec), from, []row{{many("d", 8*many8), many("-", 8*many8-1) + "x", want}})
		}
		from := api.Ctl{Phase: api.PhaseWait, Conf: api.Conf{TEC: 255, REC: 100}, Error: flagged}
		want := from
		want.N, want.Conf.REC = 1000, 255
		checkRows(t, "a receiver", from, []row{{many("d", 1000), many("-", 1000), want}})
	}
}

func TestDelim(t *testing.T) {
	for _, now := range counters() {
		for _, sender := range []bool{false, true} {
			for _, flagged := range []bool{false, true} {
				for n := 1; n < 8; n++ {
					what := fmt.Sprintf("%d bits behind a flag with %v, sender %v, flag %v", n, now, sender, flagged)
					from := api.Ctl{Phase: api.PhaseDelim, N: n, Conf: now, Has: true, Give: own, Sender: sender, Error: flagged}
					// Recessive ones to the end, or one of them.
					want := from
					want.Phase, want.N = api.PhaseInter, 0
					checkRows(t, what, from, []row{{many("r", 8-n), many("-", 8-n), want}})
					if n < 7 {
						want.Phase, want.N = api.PhaseDelim, n+1
						checkRows(t, what, from, []row{{"r", "-", want}})
						// A dominant one is an error, but for the eighth one.
						grown := more(now, 0, 1)
						if sender {
							grown = more(now, 8, 0)
						}
						wrong, letter := failed(from, now, grown, "m")
						checkRows(t, what, from, []row{{"d", letter, wrong}})
						continue
					}
					want = from
					want.Phase, want.N, want.Error = api.PhaseOver, 0, false
					checkRows(t, what, from, []row{{"d", "o", want}})
				}
			}
		}
	}
}

func TestInter(t *testing.T) {
	for _, now := range counters() {
		for _, sender := range []bool{false, true} {
			for _, flagged := range []bool{false, true} {
				for _, f := range []*api.Frame{nil, &own} {
					checkInter(t, now, sender, flagged, f)
				}
			}
		}
	}
}

// checkInter tries the bits between frames, of a controller that may have one.
func checkInter(t *testing.T, now api.Conf, sender, flagged bool, f *api.Frame) {
	t.Helper()
	from := api.Ctl{Phase: api.PhaseInter, Conf: now, Sender: sender, Error: flagged}
	if f != nil {
		from.Has, from.Give = true, *f
	}
	what := fmt.Sprintf("between frames with %v, sender %v, flag %v, frame %v", now, sender, flagged, from.Has)
	next := func(phase uint8, n int) api.Ctl {
		c := from
		c.Phase, c.N = phase, n
		return c
	}
	holds := passive(now) && sender
	idle := next(api.PhaseIdle, 0)
	if holds {
		idle.Phase = api.PhaseHold
	}
	over := next(api.PhaseOver, 0)
	over.Error = false
	begun := api.Ctl{Phase: api.PhaseFrame, Conf: now, Has: from.Has, Give: from.Give, Error: flagged, Take: taking("d")}
	if from.Has && !holds {
		begun.Sends, begun.Sender, begun.Wire, begun.At = true, true, rows.Of(samples.Wire(own)), 1
	}
	checkRows(t, what, from, []row{
		{"r", "-", next(api.PhaseInter, 1)},
		{"rr", "--", next(api.PhaseInter, 2)},
		{"rrr", "---", idle},
		{"d", "o", over},
		{"rd", "-o", over},
		{"rrd", "---", begun},
	})
}

func TestHold(t *testing.T) {
	for _, has := range []bool{false, true} {
		for _, flagged := range []bool{false, true} {
			from := api.Ctl{Phase: api.PhaseHold, Conf: api.Conf{TEC: 130}, Sender: true, Error: flagged}
			if has {
				from = given(t, from, own)
			}
			// It does not send, even if it has a frame.
			begun := api.Ctl{Phase: api.PhaseFrame, Conf: from.Conf, Has: has, Give: from.Give, Error: flagged, Take: taking("d")}
			for n := range 8 {
				want := from
				if want.N = n + 1; n == 7 {
					want.Phase, want.N = api.PhaseIdle, 0
				}
				what := fmt.Sprintf("held back for %d bits, frame %v", n, has)
				checkRows(t, what, from, []row{{many("r", n+1), many("-", n+1), want}, {many("r", n) + "d", many("-", n+1), begun}})
			}
		}
	}
}

func TestOff(t *testing.T) {
	for _, has := range []bool{false, true} {
		for _, flagged := range []bool{false, true} {
			from := api.Ctl{Phase: api.PhaseOff, Conf: gone(260, 30), Error: flagged}
			if has {
				from = given(t, from, own)
			}
			in := func(run, times int) api.Ctl {
				c := from
				c.Conf.Run, c.Conf.Times = run, times
				return c
			}
			on := api.Ctl{Has: has, Give: from.Give, Error: flagged}
			all := many("r", 1407)
			checkRows(t, fmt.Sprintf("off, frame %v, flag %v", has, flagged), from, []row{
				{"d", "-", from},
				{"r", "-", in(1, 0)},
				{"rrd", "---", from},
				{many("r", 10), many("-", 10), in(10, 0)},
				{many("r", 11), many("-", 11), in(0, 1)},
				{many("r", 12) + "d", many("-", 13), in(0, 1)},
				{all, many("-", 1407), in(10, 127)},
				{all + "d", many("-", 1408), in(0, 127)},
				{all + "r", many("-", 1407) + "n", on},
				{all + "d" + many("r", 11), many("-", 1408+10) + "n", on},
			})
		}
	}
}

// A controller that is on again sends what it has.
func TestOnAgain(t *testing.T) {
	s := samples.Acked(samples.Wire(own))
	c := given(t, api.Ctl{Phase: api.PhaseOff, Conf: gone(256, 255)}, own)
	got, said := run(c, many("r", 1408)+s)
	want := api.Ctl{Phase: api.PhaseInter, Sender: true}
	check(t, "on again", got, said, want, many("-", 1407)+"n"+many("-", len(s)-1)+"s")
}

// Flags upon flags: those of others end later than the own one, or begin behind it.
func TestFlagsUponFlags(t *testing.T) {
	between := func(c api.Ctl, rec int) api.Ctl {
		c.Phase, c.Conf.REC = api.PhaseInter, rec
		return c
	}
	read := api.Ctl{Error: true}
	over := api.Ctl{}
	delim := many("r", 8)
	checkRows(t, "a receiver's flag", api.Ctl{}, []row{
		{"dddddd" + "dddddd" + delim, "-----f" + many("-", 14), between(read, 1)},
		{"dddddd" + "dddddd" + "d" + delim, "-----f" + many("-", 15), between(read, 9)},
		{"dddddd" + "dddddd" + "dddddd" + delim, "-----f" + many("-", 20), between(read, 9)},
		{"dddddd" + "dddddd" + many("d", 8) + delim, "-----f" + many("-", 22), between(read, 17)},
		// Another error behind it, at each place: the next flag.
		{"dddddd" + "dddddd" + "rd" + "dddddd" + delim, "-----f" + "------" + "-m" + many("-", 14), between(read, 2)},
		{"dddddd" + "dddddd" + "rrrrrrd" + "dddddd" + delim, "-----f" + "------" + "------m" + many("-", 14), between(read, 2)},
		{"dddddd" + "dddddd" + "rd" + "ddrddd" + "d" + delim, "-----f" + "------" + "-m" + "--b---" + many("-", 9), between(read, 18)},
		// An overload flag behind it: what follows is no error's flag.
		{"dddddd" + "dddddd" + many("r", 7) + "d" + "dddddd" + "d" + delim, "-----f" + "------" + many("-", 7) + "o" + many("-", 15), between(over, 1)},
		{"dddddd" + "dddddd" + delim + "d" + "dddddd" + delim, "-----f" + many("-", 14) + "o" + many("-", 14), between(over, 1)},
		{"dddddd" + "dddddd" + delim + "rd" + "dddddd" + "ddd" + delim, "-----f" + many("-", 14) + "-o" + many("-", 17), between(over, 1)},
		{"dddddd" + "dddddd" + delim + "d" + "dddddd" + many("d", 8) + delim, "-----f" + many("-", 14) + "o" + many("-", 22), between(over, 9)},
		// An error behind an overload flag is one again.
		{"dddddd" + "dddddd" + delim + "d" + "dddddd" + "rrd" + "dddddd" + "d" + delim, "-----f" + many("-", 14) + "o" + "------" + "--m" + many("-", 15), between(read, 10)},
		// Overload flags follow each other.
		{"dddddd" + "dddddd" + delim + "d" + "dddddd" + many("r", 7) + "d" + "dddddd" + delim, "-----f" + many("-", 14) + "o" + many("-", 13) + "o" + many("-", 14), between(over, 1)},
	})
}

// A passive receiver's flag is heard by nobody: it ends with six equal bits.
func TestWeakFlagsUponFlags(t *testing.T) {
	from := api.Ctl{Conf: api.Conf{REC: 200}}
	between := func(rec int) api.Ctl {
		return api.Ctl{Phase: api.PhaseInter, Conf: api.Conf{REC: rec}, Error: true}
	}
	delim := many("r", 8)
	checkRows(t, "a weak flag", from, []row{
		{"dddddd" + "dddddd" + delim, "-----f" + many("-", 14), between(201)},
		{"dddddd" + "rrrrrr" + delim, "-----f" + many("-", 14), between(201)},
		{"dddddd" + "ddddd" + "rrrrrr" + delim, "-----f" + many("-", 19), between(201)},
		{"dddddd" + "rrrdddddd" + "d" + delim, "-----f" + many("-", 18), between(209)},
		{"dddddd" + "dddddd" + many("d", 16) + delim, "-----f" + many("-", 30), between(225)},
		{"dddddd" + "dddddd" + "rd" + "rrrrrr" + delim, "-----f" + "------" + "-m" + many("-", 14), between(202)},
	})
}

// An error by which a controller becomes passive has an active flag, the next one a
// passive one.
func TestBecomingPassive(t *testing.T) {
	c := with(api.Ctl{}, 0, 127)
	got, said := run(c, "dddddd")
	check(t, "by the error", got, said, api.Ctl{Phase: api.PhaseFlag, Conf: api.Conf{REC: 128}, Error: true}, "-----f")
	if ctl.Drive(got) {
		t.Error("the flag is not driven")
	}
	got, said = run(got, "......"+"rd")
	check(t, "by the next error", got, said, api.Ctl{Phase: api.PhaseWeak, Conf: api.Conf{REC: 129}, Error: true}, "-------m")
}

// What is told beside what happens: a frame, if one was sent or taken, and otherwise
// none.
func TestHappensWithoutFrames(t *testing.T) {
	for _, s := range []string{"dddddd", "r" + many("d", 30) + many("r", 30), "drrrrrrdddrrrrrrrrrrrrd"} {
		for _, c := range []api.Ctl{{}, given(t, api.Ctl{}, own)} {
			for i := range len(s) {
				next, h := ctl.Step(c, s[i] == 'r')
				if !samples.Same(h.Frame, api.Frame{}) {
					t.Errorf("behind %q it is told %v", s[:i+1], h)
				}
				c = next
			}
		}
	}
}
