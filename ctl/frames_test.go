package ctl_test

import (
	"fmt"
	"strings"
	"testing"

	"jackstay/api"
	"jackstay/crc"
	"jackstay/ctl"
	"jackstay/frame"
	"jackstay/rows"
	"jackstay/samples"
	"jackstay/stuff"
)

// P8.2: Step in a frame, of those that read, and of senders.

// reads is a controller that reads a frame, behind the bits of s.
func reads(from api.Ctl, s string) api.Ctl {
	c := api.Ctl{Phase: api.PhaseFrame, Conf: from.Conf, Has: from.Has, Give: from.Give, Error: from.Error}
	c.Take = taking(s)
	return c
}

// sends is a controller that sends its frame, behind the bits of s.
func sends(from api.Ctl, s string) api.Ctl {
	c := reads(from, s)
	c.Sends, c.Sender, c.At = true, true, len(s)
	c.Wire = rows.Of(samples.Wire(from.Give))
	return c
}

// letter is that of what happens with the last bit of s.
func letter(from api.Ctl, s string) (api.Ctl, string) {
	c, said := run(from, s)
	return c, said[len(said)-1:]
}

// A frame is read to its end, and taken with the last bit but one: every state of it.
func TestReading(t *testing.T) {
	for i, f := range samples.Right() {
		s := samples.Acked(samples.Wire(f))
		from := with(api.Ctl{Error: i%2 == 0}, 5, 9)
		if i%3 == 0 {
			from = given(t, from, own)
			from.Phase, from.N = api.PhaseHold, 4
		}
		c := from
		for k := range len(s) {
			next, h := ctl.Step(c, s[k] == 'r')
			want := reads(from, s[:k+1])
			says, taken := api.HapNone, api.Frame{}
			if k >= len(s)-2 {
				want.Conf.REC = 8
			}
			switch k {
			case len(s) - 2:
				says, taken = api.HapTook, f
			case len(s) - 1:
				want.Phase, want.Take = api.PhaseInter, api.Taking{}
			}
			if h.What != says || !samples.Same(h.Frame, taken) || !samples.SameCtl(next, want) {
				t.Fatalf("behind bit %d of %d of %v it is told %v, and is\n%+v, not\n%+v", k, len(s), f, h, next, want)
			}
			c = next
		}
	}
}

// What a frame that is taken makes of the counters.
func TestTookCounts(t *testing.T) {
	s := samples.Acked(samples.Wire(other))
	for before, after := range map[int]int{0: 0, 1: 0, 2: 1, 119: 118, 127: 126, 128: 119, 200: 119, 255: 119} {
		for _, tec := range []int{0, 100, 255} {
			got, said := run(with(api.Ctl{}, tec, before), s[:len(s)-1])
			want := reads(with(api.Ctl{}, tec, after), s[:len(s)-1])
			check(t, fmt.Sprint("a frame that is taken with REC ", before), got, said, want, many("-", len(s)-2)+"t")
		}
	}
}

// The acknowledgement that is driven is not sampled: an error of who drove it.
func TestReadingUnheard(t *testing.T) {
	for _, f := range samples.Some() {
		s := samples.Wire(f)
		for _, now := range counters() {
			from := given(t, api.Ctl{Conf: now, Error: true}, own)
			want, says := failed(from, now, more(now, 0, 1), "b")
			// It holds back, and so does not send its own frame.
			from.Phase = api.PhaseHold
			got, said := run(from, s[:len(s)-8])
			check(t, fmt.Sprintf("%v with %v, unheard", f, now), got, said, want, many("-", len(s)-9)+says)
		}
	}
}

// Each error of a frame that is read, of controllers of all kinds.
func TestReadingErrors(t *testing.T) {
	s := samples.Acked(samples.Wire(other))
	body := len(s) - 10
	bad, _ := frame.Body(other)
	bad[len(bad)-2] = !bad[len(bad)-2]
	sum := rows.Text(stuff.Put(bad))
	for what, x := range map[string][2]string{
		"six dominant bits at once":              {"dddddd", "f"},
		"six dominant bits on the way":           {s[:6] + "dddddd", "f"},
		"six recessive bits":                     {"drrrrrr", "f"},
		"six recessive bits on the way":          {s[:6] + "rrrrr", "f"},
		"a dominant delimiter of the check sum":  {s[:body] + "d", "m"},
		"a dominant delimiter behind the slot":   {s[:body] + "rdd", "m"},
		"a dominant first bit of the end":        {s[:body] + "rdrd", "m"},
		"a dominant fifth bit of the end":        {s[:body] + "rdrrrrrd", "m"},
		"a dominant last bit but one":            {s[:body] + "rdrrrrrrd", "m"},
		"another check sum, acknowledged":        {sum + "rdr", "c"},
		"another check sum, not acknowledged":    {sum + "rrr", "c"},
		"another check sum, and no delimiter":    {sum + "rrd", "m"},
		"another check sum, and none behind it":  {sum + "d", "m"},
		"an acknowledgement that is not sampled": {s[:body] + "rr", "b"},
	} {
		for _, now := range counters() {
			for _, flagged := range []bool{false, true} {
				from := api.Ctl{Conf: now, Error: flagged}
				want, says := failed(from, now, more(now, 0, 1), x[1])
				got, said := run(from, x[0])
				check(t, fmt.Sprintf("%s with %v", what, now), got, said, want, many("-", len(x[0])-1)+says)
			}
		}
	}
}

// With another check sum nothing is acknowledged, and what is sampled in the slot does
// not matter.
func TestReadingAnotherCheckSum(t *testing.T) {
	for _, f := range samples.Some() {
		body, _ := frame.Body(f)
		body[len(body)-1] = !body[len(body)-1]
		s := rows.Text(stuff.Put(body))
		for _, ack := range []string{"r", "d"} {
			if got := driven(api.Ctl{}, s+"r"+ack); got != many("r", len(s)+2) {
				t.Errorf("%v with another check sum: %q is driven", f, got)
			}
			if _, said := run(api.Ctl{}, s+"r"+ack+"r"); said != many("-", len(s)+2)+"c" {
				t.Errorf("%v with another check sum is told %q", f, said)
			}
		}
	}
}

// The last bit is late for those that read: they have taken the frame, and it is no
// error.
func TestReadingTheLastBit(t *testing.T) {
	for _, f := range samples.Some() {
		s := samples.Acked(samples.Wire(f))
		for _, now := range counters() {
			from := api.Ctl{Conf: now, Error: true}
			took := after(from, s[:len(s)-1])
			want := api.Ctl{Phase: api.PhaseOver, Conf: took.Conf}
			got, said := run(from, rows.Turned(s, len(s)-1))
			check(t, fmt.Sprintf("%v with %v, and a dominant last bit", f, now), got, said, want, many("-", len(s)-2)+"to")
			if ctl.Drive(got) {
				t.Error("the overload flag is not driven")
			}
		}
	}
}

// A frame is sent to its end: every state of it.
func TestSending(t *testing.T) {
	for i, f := range samples.Right() {
		s := samples.Acked(samples.Wire(f))
		from := given(t, with(api.Ctl{Error: i%2 == 0}, 9, 5), f)
		c := from
		for k := range len(s) {
			next, h := ctl.Step(c, s[k] == 'r')
			want := sends(from, s[:k+1])
			says, sent := api.HapNone, api.Frame{}
			if k == len(s)-1 {
				says, sent = api.HapSent, f
				want = api.Ctl{Phase: api.PhaseInter, Conf: api.Conf{TEC: 8, REC: 5}, Sender: true, Error: from.Error}
			}
			if h.What != says || !samples.Same(h.Frame, sent) || !samples.SameCtl(next, want) {
				t.Fatalf("behind bit %d of %d of %v it is told %v, and is\n%+v, not\n%+v", k, len(s), f, h, next, want)
			}
			c = next
		}
	}
}

// What a frame that is sent makes of the counters.
func TestSentCounts(t *testing.T) {
	s := samples.Acked(samples.Wire(own))
	for before, after := range map[int]int{0: 0, 1: 0, 2: 1, 128: 127, 129: 128, 255: 254} {
		for _, rec := range []int{0, 100, 255} {
			got, said := run(given(t, with(api.Ctl{}, before, rec), own), s)
			want := api.Ctl{Phase: api.PhaseInter, Conf: api.Conf{TEC: after, REC: rec}, Sender: true}
			check(t, fmt.Sprint("a frame that is sent with TEC ", before), got, said, want, many("-", len(s)-1)+"s")
		}
	}
}

// place is what a bit on the wire is for its sender.
type place struct{ contest, stuffed, slot bool }

// placesOf are the places of the bits of the wire form of f, told by how long its parts
// are on the wire: those behind the start that decide the arbitration, up to the remote
// bit, and whether there are five equal bits ahead.
func placesOf(f api.Frame) []place {
	s := samples.Wire(f)
	body, _ := frame.Body(f)
	decides := 13
	if f.Ext {
		decides = 33
	}
	// The bit that decides last, behind all stuff bits ahead of it.
	last := len(stuff.Put(body[:decides-1]))
	l := make([]place, len(s))
	for k := range s {
		five := strings.HasSuffix(s[:k], "ddddd") || strings.HasSuffix(s[:k], "rrrrr")
		l[k] = place{contest: k > 0 && k <= last, stuffed: five && k < len(s)-10, slot: k == len(s)-9}
	}
	return l
}

// Every bit of a frame, sampled as the other kind, of senders of all kinds.
func TestSendingEveryBitTurned(t *testing.T) {
	met := map[string]int{}
	frames := samples.Right()
	for i, now := range counters() {
		for n, f := range frames {
			if n%len(counters()) != i {
				continue
			}
			s := samples.Acked(samples.Wire(f))
			from := given(t, api.Ctl{Conf: now, Error: n%2 == 0}, f)
			as := sends(from, "d")
			plain := samples.Wire(f)
			for k, p := range placesOf(f) {
				if k == 0 || p.slot {
					continue
				}
				want, says := failed(as, now, more(now, 8, 0), "b")
				want.Error = want.Error || from.Error
				switch {
				case plain[k] == 'r' && p.contest && p.stuffed:
					// A flag, and no event.
					want, says = failed(as, now, now, "f")
				case plain[k] == 'r' && p.contest:
					want, says = reads(from, s[:k]+"d"), "l"
				}
				got, said := letter(from, rows.Turned(s[:k+1], k))
				if said != says || !samples.SameCtl(got, want) {
					t.Fatalf("%v with %v, its bit %d turned: it is told %q, not %q, and is\n%+v, not\n%+v", f, now, k, said, says, got, want)
				}
				met[says]++
			}
		}
	}
	for _, what := range []string{"b", "l", "f", "x"} {
		if met[what] < 20 {
			t.Errorf("what is told %q is met %d times", what, met[what])
		}
	}
}

// Stuff bits in arbitration, and where it ends, one by one: IDs with five equal bits at
// each place.
func TestStuffBitsInArbitration(t *testing.T) {
	for _, x := range []struct {
		f    api.Frame
		bits string // all up to the one that is sampled dominant where it drove recessive
		says string
	}{
		// The start and four more dominant bits: the stuff bit, and the bit behind it.
		{api.Frame{ID: 0x7f}, "dddddd", "f"},
		{api.Frame{ID: 0x7f}, "dddddrd", "l"},
		{api.Frame{ID: 0x7f}, "dddddrrd", "l"},
		{api.Frame{ID: 0x7ff}, "dd", "l"},
		{api.Frame{ID: 0x7ff}, "drrrrrdd", "l"},
		// A stuff bit that is dominant is a bit error, sampled as recessive.
		{api.Frame{ID: 0x7ff}, "drrrrrr", "b"},
		// Five dominant bits end with the ID: the stuff bit is ahead of the remote bit.
		{api.Frame{ID: 0x7e0, Remote: true}, "drrrrrdrddddd" + "d", "f"},
		{api.Frame{ID: 0x7e0, Remote: true}, "drrrrrdrddddd" + "rd", "l"},
		{api.Frame{ID: 0x7e0}, "drrrrrdrddddd" + "rr", "b"},
		// They end with the remote bit, which is the twelfth one behind the start: the
		// stuff bit behind it is not during arbitration any more.
		{api.Frame{ID: 0x7f0}, "drrrrrdrrddddd" + "d", "b"},
		// They end with the bit behind that.
		{api.Frame{ID: 0x7f8}, "drrrrrdrrrddddd" + "d", "b"},
		// The recessive bits of the length code are behind the arbitration.
		{api.Frame{ID: 0x7fe, Dlc: 8, Data: make([]byte, 8)}, "drrrrrdrrrrrddddd" + "d", "b"},
		{api.Frame{ID: 0x7fe, Dlc: 8, Data: make([]byte, 8)}, "drrrrrdrrrrrddddd" + "rd", "b"},
		// An extended frame: the two fixed bits, the lower bits, the remote bit.
		{api.Frame{ID: 0x7fe << 18, Ext: true}, "drrrrrdrrrrrddd", "l"},
		{api.Frame{ID: 0x7fe << 18, Ext: true}, "drrrrrdrrrrrddrd", "l"},
		{api.Frame{ID: 0x7fe << 18, Ext: true}, "drrrrrdrrrrrddrrddddd" + "d", "f"},
		{api.Frame{ID: 0x7fe<<18 | 1<<12, Ext: true}, "drrrrrdrrrrrddrrddddd" + "rd", "l"},
		{api.Frame{ID: 0x7fe<<18 | 1, Ext: true, Remote: true}, "drrrrrdrrrrrddrr" + "dddddr" + "dddddr" + "dddddr" + "ddrd", "l"},
		{api.Frame{ID: 0x7fe<<18 | 1, Ext: true}, "drrrrrdrrrrrddrr" + "dddddr" + "dddddr" + "dddddr" + "dd" + "d", "l"},
		{api.Frame{ID: 0x7fe << 18, Ext: true, Remote: true}, "drrrrrdrrrrrddrr" + "dddddr" + "dddddr" + "dddddr" + "ddd" + "d", "l"},
		// Behind the remote bit of an extended frame: five dominant bits that end with
		// it, or behind it.
		{api.Frame{ID: 0x7fe<<18 | 16, Ext: true}, "drrrrrdrrrrrddrr" + "dddddr" + "dddddr" + "dddrddddd" + "d", "b"},
		{api.Frame{ID: 0x7fe<<18 | 32, Ext: true, Remote: true}, "drrrrrdrrrrrddrr" + "dddddr" + "dddddr" + "ddrddddd" + "d", "f"},
		{api.Frame{ID: 0x7fe<<18 | 32, Ext: true, Remote: true}, "drrrrrdrrrrrddrr" + "dddddr" + "dddddr" + "ddrddddd" + "rd", "l"},
		{api.Frame{ID: 0x7fe<<18 | 1, Ext: true, Remote: true, Dlc: 8}, "drrrrrdrrrrrddrr" + "dddddr" + "dddddr" + "dddddr" + "ddrr" + "dd" + "d", "b"},
	} {
		for _, tec := range []int{0, 130} {
			from := given(t, with(api.Ctl{}, tec, 0), x.f)
			if x.says != "b" || x.bits[len(x.bits)-1] == 'd' {
				if c := after(from, x.bits[:len(x.bits)-1]); !c.Sends || !ctl.Drive(c) {
					t.Fatalf("%v does not send a recessive bit behind %q", x.f, x.bits[:len(x.bits)-1])
				}
			}
			got, said := letter(from, x.bits)
			if said != x.says {
				t.Errorf("%v is told %q by the last bit of %q", x.f, said, x.bits)
			}
			want := reads(from, x.bits)
			if x.says != "l" {
				want = api.Ctl{Phase: api.PhaseFlag, Conf: api.Conf{TEC: tec}, Has: true, Give: x.f, Sender: true, Error: true}
				if tec > 0 {
					want.Phase = api.PhaseWeak
				}
				if x.says == "b" {
					want.Conf.TEC += 8
				}
			}
			if !samples.SameCtl(got, want) {
				t.Errorf("%v by the last bit of %q is\n%+v, not\n%+v", x.f, x.bits, got, want)
			}
		}
	}
}

// Who loses reads on, acknowledges what has won, and takes it; then it sends its own.
func TestLosing(t *testing.T) {
	for _, x := range [][2]api.Frame{
		{{ID: 1}, {ID: 2}},
		{{ID: 0x2aa}, {ID: 0x2aa, Remote: true}},
		{{ID: 5, Dlc: 2, Data: []byte{1, 2}}, {ID: 5 << 18, Ext: true}},
		{{ID: 5, Remote: true}, {ID: 5 << 18, Ext: true}},
		{{ID: 5 << 18, Ext: true, Dlc: 1, Data: []byte{7}}, {ID: 5<<18 | 1, Ext: true}},
		{{ID: 5 << 18, Ext: true}, {ID: 5 << 18, Ext: true, Remote: true}},
	} {
		winner, loser := x[0], x[1]
		s, mine := samples.Acked(samples.Wire(winner)), samples.Acked(samples.Wire(loser))
		lost := 0
		for s[lost] == mine[lost] {
			lost++
		}
		from := given(t, with(api.Ctl{Error: true}, 20, 20), loser)
		got, said := run(from, s)
		says := many("-", lost) + "l" + many("-", len(s)-lost-3) + "t-"
		want := api.Ctl{Phase: api.PhaseInter, Conf: api.Conf{TEC: 20, REC: 19}, Has: true, Give: loser, Error: true}
		check(t, fmt.Sprintf("%v loses against %v", loser, winner), got, said, want, says)
		if got := driven(from, s)[lost+1:]; got != many("r", len(s)-lost-10)+"d"+many("r", 8) {
			t.Errorf("%v has lost against %v, and drives %q", loser, winner, got)
		}
		for _, between := range []string{"rrr", "rr"} {
			got, said := run(got, between+mine)
			want := api.Ctl{Phase: api.PhaseInter, Conf: api.Conf{TEC: 19, REC: 19}, Sender: true, Error: true}
			check(t, fmt.Sprintf("%v after %v", loser, winner), got, said, want, many("-", len(between)+len(mine)-1)+"s")
		}
	}
}

// The last bit of a frame is an error for its sender, which sends it again.
func TestSendingTheLastBit(t *testing.T) {
	for _, f := range samples.Some() {
		s := samples.Acked(samples.Wire(f))
		for _, now := range counters() {
			from := given(t, api.Ctl{Conf: now}, f)
			as := from
			as.Sender = true
			want, says := failed(as, now, more(now, 8, 0), "b")
			got, said := run(from, rows.Turned(s, len(s)-1))
			check(t, fmt.Sprintf("%v with %v, and a dominant last bit", f, now), got, said, want, many("-", len(s)-1)+says)
		}
		got, said := run(given(t, api.Ctl{}, f), rows.Turned(s, len(s)-1)+"......"+many("r", 11)+s)
		want := api.Ctl{Phase: api.PhaseInter, Conf: api.Conf{TEC: 7}, Sender: true, Error: true}
		check(t, fmt.Sprintf("%v, for the second time", f), got, said, want, many("-", len(s)-1)+"b"+many("-", 17+len(s)-1)+"s")
	}
}

// The acknowledgement slot: what nobody acknowledges is an error; for a passive sender
// it is owed.
func TestUnheardSenders(t *testing.T) {
	for _, f := range samples.Some() {
		s := samples.Wire(f)
		for _, now := range counters() {
			from := given(t, api.Ctl{Conf: now}, f)
			as := from
			as.Sender = true
			want, says := failed(as, now, more(now, 8, 0), "a")
			if passive(now) {
				want, says = failed(as, now, now, "a")
				want.Owed = true
			}
			got, said := run(from, s[:len(s)-8])
			check(t, fmt.Sprintf("%v with %v, unheard", f, now), got, said, want, many("-", len(s)-9)+says)
		}
	}
}

// A passive sender that is alone stays as it is for good; if it is not, it is counted
// once for each frame.
func TestUnheardPassiveSenders(t *testing.T) {
	s := samples.Wire(own)
	part, flagged := s[:len(s)-8], many("-", len(s)-9)+"a"
	behind := many("r", 8+3+8)
	from := given(t, with(api.Ctl{}, 128, 0), own)
	next := from
	next.Sender, next.Error = true, true
	got, said := from, ""
	for range 40 {
		got, said = run(got, part+"rrrrrr"+behind)
		check(t, "alone", got, said, next, flagged+many("-", 6+19))
	}
	for _, flag := range []string{"dddddd", "rdrrrrrr", "rrrrrdddddd", "rrdrdrdddddd"} {
		next.Conf.TEC = 136
		got, said = run(from, part+flag+behind)
		check(t, "with others in its flag: "+flag, got, said, next, flagged+many("-", len(flag)+19))
	}
	// What comes behind the flag is not its own any more.
	next.Conf.TEC = 128
	got, said = run(from, part+"rrrrrr"+"ddd"+behind)
	check(t, "with others behind its flag", got, said, next, flagged+many("-", 6+3+19))
	// It goes off by what it owed.
	want := api.Ctl{Phase: api.PhaseOff, Conf: gone(256, 0), Has: true, Give: own, Error: true}
	got, said = run(given(t, with(api.Ctl{}, 248, 0), own), part+"rrd")
	check(t, "with others, and TEC 248", got, said, want, flagged+"--x")
	// REC alone makes it passive, too.
	want = api.Ctl{Phase: api.PhaseWeak, N: 1, Conf: api.Conf{TEC: 8, REC: 128}, Has: true, Give: own, Sender: true, Error: true}
	got, said = run(given(t, with(api.Ctl{}, 0, 128), own), part+"d")
	check(t, "with others, and REC 128", got, said, want, flagged+"-")
	// No other error is owed.
	want = api.Ctl{Phase: api.PhaseWeak, N: 1, Conf: api.Conf{TEC: 136}, Has: true, Give: own, Sender: true, Error: true}
	got, said = run(from, rows.Turned(s, len(s)-1)[:len(s)-9]+"drrrrrrrd"+"d")
	check(t, "an error of the last bit", got, said, want, many("-", len(s)-1)+"b-")
}

// A stuff bit that is overwritten during arbitration is not counted, and not owed.
func TestStuffErrorsOfPassiveSenders(t *testing.T) {
	from := given(t, with(api.Ctl{}, 130, 0), api.Frame{ID: 0x7f})
	want := api.Ctl{Phase: api.PhaseWait, Conf: api.Conf{TEC: 130}, Has: true, Give: api.Frame{ID: 0x7f}, Sender: true, Error: true}
	for _, flag := range []string{"dddddd", "rrrrrr", "rdrrrrrr"} {
		got, said := run(from, "dddddd"+flag)
		check(t, "with the flag "+flag, got, said, want, "-----f"+many("-", len(flag)))
	}
}

// A sender stays the sender behind its error: what follows counts as a sender's.
func TestSendersBehindTheirErrors(t *testing.T) {
	s := samples.Wire(own)
	from := given(t, api.Ctl{}, own)
	start := many(".", 19) + "d" // a bit error
	at := func(phase uint8, tec, n int) api.Ctl {
		return api.Ctl{Phase: phase, N: n, Conf: api.Conf{TEC: tec}, Has: true, Give: own, Sender: true, Error: true}
	}
	told := many("-", 19) + "b"
	for _, x := range []struct {
		bits, says string
		want       api.Ctl
	}{
		{"", "", at(api.PhaseFlag, 8, 0)},
		{"r", "b", at(api.PhaseFlag, 16, 1)},
		{"dddddd", "------", at(api.PhaseWait, 8, 0)},
		{"dddddd" + "d", "-------", at(api.PhaseWait, 8, 1)},
		{"dddddd" + "dddddddd", many("-", 14), at(api.PhaseWait, 16, 8)},
		{"dddddd" + "rrd", "--------m", at(api.PhaseFlag, 16, 0)},
		{"dddddd" + many("r", 10), many("-", 16), at(api.PhaseInter, 8, 2)},
		{"dddddd" + many("r", 11), many("-", 17), at(api.PhaseIdle, 8, 0)},
	} {
		got, said := run(from, start+x.bits)
		check(t, "behind an error: "+x.bits, got, said, x.want, told+x.says)
	}
	// It sends again, in the third bit between frames, too.
	for _, between := range []string{many("r", 10), many("r", 11)} {
		got, said := run(from, start+"dddddd"+between+samples.Acked(s))
		want := api.Ctl{Phase: api.PhaseInter, Conf: api.Conf{TEC: 7}, Sender: true, Error: true}
		check(t, "again", got, said, want, told+many("-", 6+len(between)+len(s)-1)+"s")
	}
	// A passive one holds back, and another frame may come first.
	passive := with(from, 130, 0)
	held := many("r", 8+3)
	got, said := run(passive, start+"rrrrrr"+held)
	check(t, "a passive sender", got, said, at(api.PhaseHold, 138, 0), told+many("-", 17))
	got, said = run(passive, start+"rrrrrr"+held+"rrrd")
	want := api.Ctl{Phase: api.PhaseFrame, Conf: api.Conf{TEC: 138}, Has: true, Give: own, Error: true, Take: taking("d")}
	check(t, "a passive sender, and another one", got, said, want, told+many("-", 21))
	got, said = run(passive, start+"rrrrrr"+many("r", 8)+"rrd")
	check(t, "a passive sender, and another one at the third bit", got, said, want, told+many("-", 17))
}

// Behind a frame that was sent the sender is still one: of an overload flag, too.
func TestSendersBehindTheirFrames(t *testing.T) {
	s := samples.Acked(samples.Wire(own))
	from := given(t, with(api.Ctl{Error: true}, 50, 0), own)
	sent := many("-", len(s)-1) + "s"
	over := api.Ctl{Phase: api.PhaseOver, N: 1, Conf: api.Conf{TEC: 57}, Sender: true}
	got, said := run(from, s+"dr")
	check(t, "an overload flag that is not sampled", got, said, over, sent+"ob")
	got, said = run(from, s+"rd"+"dddddd"+many("d", 8))
	check(t, "an overload flag, and more", got, said, api.Ctl{Phase: api.PhaseWait, N: 8, Conf: api.Conf{TEC: 57}, Sender: true}, sent+"-o"+many("-", 14))
	got, said = run(from, s+"d"+"dddddd"+"rrrd")
	check(t, "an overload flag, and an error behind it", got, said, api.Ctl{Phase: api.PhaseFlag, Conf: api.Conf{TEC: 57}, Sender: true, Error: true}, sent+"o"+many("-", 9)+"m")
	// The next frame makes a receiver of it.
	got, said = run(from, s+"rrrr"+samples.Wire(other)[:8])
	check(t, "another frame", got, said, reads(with(api.Ctl{Error: true}, 49, 0), samples.Wire(other)[:8]), sent+many("-", 12))
	// A frame with the fixed bits of another kind is taken as any other.
	body := rows.Of("dddrddrdddrrddrdddd")
	body = append(body, crc.Bits(crc.Sum(body))...)
	strange := rows.Text(stuff.Put(body)) + "rdrrrrrrrr"
	if _, said := run(api.Ctl{}, strange); !strings.HasSuffix(said, "t-") {
		t.Errorf("a frame with another fixed bit is told %q", said)
	}
}
