package lcan_test

import (
	"math/rand/v2"
	"testing"

	"jackstay/api"
	"jackstay/lcan"
	"jackstay/rows"
	"jackstay/samples"
)

// P16.2: runs.

// runs holds a run to single steps up to the first error.
func runs(t *testing.T, s api.Lcan, l []api.May) {
	t.Helper()
	want, many, e := s, 0, api.OK
	for many < len(l) && e == api.OK {
		next, g := lcan.Step(want, l[many])
		if e = g; e == api.OK {
			want = next
			many++
		}
	}
	holdsRun(t, s, l, want, many, e)
}

// holdsRun holds a run to its results.
func holdsRun(t *testing.T, s api.Lcan, l []api.May, want api.Lcan, many int, e api.Errno) {
	t.Helper()
	got, n, g := lcan.Run(s, l)
	if !same(got, want) || n != many || g != e {
		t.Fatalf("from %s %v makes\n%+v, %d, error %d, not\n%+v, %d, error %d", text(s), l, got, n, g, want, many, e)
	}
}

func TestRunOfNothing(t *testing.T) {
	for _, l := range [][]api.May{nil, {}, make([]api.May, 0, 5), []api.May{gives(0)}[:0]} {
		for _, s := range []string{"u u", "u:1 o x: ox:1 3"} {
			holdsRun(t, of(t, s), l, of(t, s), 0, api.OK)
		}
	}
}

func TestRun(t *testing.T) {
	l := []api.May{
		gives(0), takes(1, 0), gives(1), takes(2, 0), sends(0), takes(2, 1), offs(0), sends(1),
		gives(2), offs(2), takes(1, 2), ons(2), sends(2), gives(0), ons(0), crashes(2), sends(0), gives(1), drops(1),
	}
	after := []string{
		"u u u", "u: u u", "u:1 u u", "u:1 u: u", "u:12 u: u", "u u: u", "u u:2 u", "o u:2 u", "o u u",
		"o u u:", "o u o:", "o u o:1", "o u u:1", "o u u", "o: u u", "u: u u", "u: u x", "u u x 1", "u u: x 1", "u u x 1",
	}
	for many := range len(l) + 1 {
		holdsRun(t, made(t, 3), l[:many], of(t, after[many]), many, api.OK)
		holdsRun(t, of(t, after[many]), l[many:], of(t, after[len(l)]), len(l)-many, api.OK)
	}
}

// A run stops at the first event that is not possible, wherever it is; what comes behind
// it does not matter.
func TestRunThatStops(t *testing.T) {
	l := []api.May{gives(0), takes(1, 0), offs(2), sends(0), ons(2), gives(1), takes(0, 1), takes(2, 1), sends(1)}
	after := []string{"u u u", "u: u u", "u:1 u u", "u:1 u o", "u u o", "u u u", "u u: u", "u u:0 u", "u u:02 u", "u u u"}
	for at, want := range after {
		for _, wrong := range []api.May{
			{}, may(8, 0, 1), may(255, 0, 1), gives(-1), gives(3), drops(2), crashes(3), takes(0, 0), takes(1, 3), sends(2), offs(-1), ons(0),
			{What: api.MayGive, Node: 2, Frame: samples.Wrong()[0]},
		} {
			for _, rest := range [][]api.May{nil, l[at:], {wrong}, {crashes(0), crashes(1)}} {
				run := append(append(append([]api.May{}, l[:at]...), wrong), rest...)
				holdsRun(t, made(t, 3), run, of(t, want), at, api.ErrLcan)
			}
		}
	}
}

// The error of a first event leaves the bus as it was, with all that it has.
func TestRunThatStopsAtOnce(t *testing.T) {
	for _, s := range []string{"u u", "u:12 o:2 u: 4", "ox x o"} {
		b := of(t, s)
		for _, m := range []api.May{{}, gives(9), takes(0, 0), sends(-1)} {
			holdsRun(t, b, []api.May{m}, b, 0, api.ErrLcan)
			holdsRun(t, b, []api.May{m, crashes(0)}, b, 0, api.ErrLcan)
		}
	}
}

// All short runs of two nodes.
func TestShortRuns(t *testing.T) {
	some := []api.May{gives(0), drops(0), crashes(0), takes(1, 0), sends(0), offs(1), ons(1), gives(1), takes(0, 1), takes(0, 0)}
	for l := range rows.Lists(some, 4) {
		runs(t, made(t, 2), l)
	}
}

// Long runs, in pieces that end at errors, are as the same events one by one.
func TestLongRuns(t *testing.T) {
	for seed := range uint64(40) {
		r := rand.New(rand.NewPCG(seed, 16))
		nodes := 2 + r.IntN(31)
		var l []api.May
		for range 3000 {
			l = append(l, chosen(r, nodes))
		}
		s := made(t, nodes)
		for one := s; len(l) > 0; {
			next, many, e := lcan.Run(s, l)
			one = behind(t, one, l[:many]...)
			if !same(next, one) {
				t.Fatalf("seed %d: a run of %d makes\n%+v, not\n%+v", seed, many, next, one)
			}
			if e == api.OK {
				break
			}
			becomes(t, next, l[many], nil)
			s, l = next, l[many+1:]
		}
	}
}

// A run is as long as its list.
func TestRunOfManyEvents(t *testing.T) {
	round := []api.May{gives(0), takes(31, 0), sends(0), gives(31), drops(31), offs(31), ons(31)}
	var l []api.May
	for range 10000 {
		l = append(l, round...)
	}
	want := made(t, 32)
	want.Silent = 10000
	holdsRun(t, made(t, 32), l, want, 70000, api.OK)
	holdsRun(t, made(t, 32), append(l, ons(31)), want, 70000, api.ErrLcan)
}
