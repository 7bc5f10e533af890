package ctl_test

import (
	"strings"
	"testing"

	"jackstay/api"
	"jackstay/ctl"
	"jackstay/rows"
	"jackstay/samples"
	"jackstay/take"
)

// run samples the bits of s, and tells what happens by letters. A dot is a bit that is
// sampled as it was driven.
func run(c api.Ctl, s string) (api.Ctl, string) {
	var out strings.Builder
	for i := range len(s) {
		bit := s[i] == 'r' || s[i] == '.' && ctl.Drive(c)
		next, h := ctl.Step(c, bit)
		out.WriteByte(samples.Letters[h.What])
		c = next
	}
	return c, out.String()
}

// after is what becomes of c by the bits of s.
func after(c api.Ctl, s string) api.Ctl {
	c, _ = run(c, s)
	return c
}

// driven are the bits that c drives while it samples those of s.
func driven(c api.Ctl, s string) string {
	var l []bool
	for i := range len(s) {
		l = append(l, ctl.Drive(c))
		c = after(c, s[i:i+1])
	}
	return rows.Text(l)
}

// given is c with a frame.
func given(t *testing.T, c api.Ctl, f api.Frame) api.Ctl {
	t.Helper()
	got, e := ctl.Give(c, f)
	if e != api.OK {
		t.Fatalf("Give(%v, %v) is error %d", c, f, e)
	}
	return got
}

// with is c with counters that are set on the way.
func with(c api.Ctl, tec, rec int) api.Ctl {
	c.Conf.TEC, c.Conf.REC = tec, rec
	return c
}

// gone are counters of a controller that is off.
func gone(tec, rec int) api.Conf { return api.Conf{TEC: tec, REC: rec, Off: true} }

// taking is the state of reading behind the bits of s.
func taking(s string) api.Taking {
	var t api.Taking
	for _, bit := range rows.Of(s) {
		t, _ = take.Next(t, bit)
	}
	return t
}

// many is s so many times.
func many(s string, times int) string { return strings.Repeat(s, times) }

// check holds a controller, and what happened by its letters, to what they should be.
func check(t *testing.T, what string, got api.Ctl, said string, want api.Ctl, says string) {
	t.Helper()
	if said != says {
		t.Errorf("%s: it is told %q, not %q", what, said, says)
	}
	if !samples.SameCtl(got, want) {
		t.Errorf("%s: it is\n%+v, not\n%+v", what, got, want)
	}
}
