package ctl_test

import (
	"slices"
	"strings"
	"testing"

	"jackstay/api"
	"jackstay/ctl"
	"jackstay/frame"
	"jackstay/rows"
	"jackstay/samples"
	"jackstay/take"
)

// letters are those of what happens, by their numbers: nothing, sent, took, lost, bit,
// fill, form, (not) acknowledged, check sum, over, off (x), on.
const letters = "-stlbfmacoxn"

// run samples the bits of s, and tells what happens by letters. A dot is a bit that is
// sampled as it was driven.
func run(c api.Ctl, s string) (api.Ctl, string) {
	var out strings.Builder
	for i := range len(s) {
		bit := s[i] == 'r' || s[i] == '.' && ctl.Drive(c)
		next, h := ctl.Step(c, bit)
		out.WriteByte(letters[h.What])
		c = next
	}
	return c, out.String()
}

// after is what becomes of c by the bits of s.
func after(c api.Ctl, s string) api.Ctl {
	c, _ = run(c, s)
	return c
}

// driven are the bits that c drives while it samples those of s.
func driven(c api.Ctl, s string) string {
	var l []bool
	for i := range len(s) {
		l = append(l, ctl.Drive(c))
		c = after(c, s[i:i+1])
	}
	return rows.Text(l)
}

// same reports whether two controllers are; no bits, and no data, are as good as nil.
func same(a, b api.Ctl) bool {
	return a.Phase == b.Phase && a.N == b.N && a.Conf == b.Conf &&
		a.Has == b.Has && samples.Same(a.Give, b.Give) &&
		a.Sends == b.Sends && a.Sender == b.Sender &&
		slices.Equal(a.Wire, b.Wire) && a.At == b.At &&
		a.Take.Row == b.Take.Row && slices.Equal(a.Take.Bits, b.Take.Bits) && a.Take.Place == b.Take.Place && a.Take.Fits == b.Take.Fits &&
		a.Row == b.Row && a.Error == b.Error && a.Owed == b.Owed
}

// given is c with a frame.
func given(t *testing.T, c api.Ctl, f api.Frame) api.Ctl {
	t.Helper()
	got, e := ctl.Give(c, f)
	if e != api.OK {
		t.Fatalf("Give(%v, %v) is error %d", c, f, e)
	}
	return got
}

// with is c with counters that are set on the way.
func with(c api.Ctl, tec, rec int) api.Ctl {
	c.Conf.TEC, c.Conf.REC = tec, rec
	return c
}

// gone are counters of a controller that is off.
func gone(tec, rec int) api.Conf { return api.Conf{TEC: tec, REC: rec, Off: true} }

// wire is the wire form of a right frame.
func wire(t *testing.T, f api.Frame) string {
	t.Helper()
	l, e := frame.Wire(f)
	if e != api.OK {
		t.Fatalf("Wire(%v) is error %d", f, e)
	}
	return rows.Text(l)
}

// acked is a wire form with a dominant acknowledgement.
func acked(s string) string { return turned(s, len(s)-9) }

// turned is s with one bit inverted.
func turned(s string, place int) string {
	l := rows.Of(s)
	l[place] = !l[place]
	return rows.Text(l)
}

// taking is the state of reading behind the bits of s.
func taking(s string) api.Taking {
	var t api.Taking
	for _, bit := range rows.Of(s) {
		t, _ = take.Next(t, bit)
	}
	return t
}

// many is s so many times.
func many(s string, times int) string { return strings.Repeat(s, times) }

// some are right frames of all kinds, so few that much can be tried with each.
func some() []api.Frame {
	l := []api.Frame{{}, {ID: 1}, {ID: 9}, {ID: 0x17}, {ID: 0x7ff}, {ID: 0x7ff, Remote: true}, {ID: 0x123, Dlc: 1, Data: []byte{0xaa}}}
	for i, f := range samples.Right() {
		if i%23 == 0 {
			l = append(l, f)
		}
	}
	return l
}

// check holds a controller, and what happened by its letters, to what they should be.
func check(t *testing.T, what string, got api.Ctl, said string, want api.Ctl, says string) {
	t.Helper()
	if said != says {
		t.Errorf("%s: it is told %q, not %q", what, said, says)
	}
	if !same(got, want) {
		t.Errorf("%s: it is\n%+v, not\n%+v", what, got, want)
	}
}
