package net_test

import (
	"math/rand/v2"
	"slices"
	"strings"
	"testing"

	"jackstay/api"
	"jackstay/ctl"
	"jackstay/frame"
	"jackstay/net"
	"jackstay/rows"
	"jackstay/samples"
)

// P9.3: what follows from all that.

// Frames that are given at once are all sent, one after the other, and taken by all
// other nodes; nodes that have lost the arbitration go on with the next one.
func TestFramesAtOnce(t *testing.T) {
	for seed := range uint64(62) {
		r := rand.New(rand.NewPCG(seed, 9))
		nodes := 2 + int(seed%31)
		frames := samples.Apart(r.Perm, max(1, nodes-r.IntN(3)))
		// The nodes behind those with frames have none.
		n := made(t, nodes)
		for node, f := range frames {
			n = given(t, n, node, f)
		}
		checkAtOnce(t, n, frames)
	}
}

// checkAtOnce holds a net, whose first nodes have these frames, to what becomes of it.
func checkAtOnce(t *testing.T, n api.Net, frames []api.Frame) {
	t.Helper()
	b := newRun(t, n)
	row := ""
	want := make([]string, len(n.Nodes))
	taken := make([][]api.Frame, len(n.Nodes))
	for _, from := range samples.Sorted(frames) {
		s := samples.OnBus(frames[from])
		row += s + "rrr"
		for node := range want {
			if node == from {
				want[node] += many("-", len(s)-1) + "s---"
				continue
			}
			want[node] += many("-", len(s)-2) + "t----"
			taken[node] = append(taken[node], frames[from])
		}
	}
	b.steps(len(row) - 3)
	if net.Quiet(b.n) {
		t.Fatalf("ahead of the end of the last of %v it is quiet", frames)
	}
	b.steps(3)
	if b.row != row || !net.Quiet(b.n) {
		t.Fatalf("of %v %q is on the bus, not %q; quiet is %v", frames, b.row, row, net.Quiet(b.n))
	}
	for node, said := range b.told {
		if strings.ReplaceAll(said, "l", "-") != want[node] {
			t.Fatalf("of %v node %d is told %q, not %q", frames, node, said, want[node])
		}
		var sent []api.Frame
		place := 0
		if node < len(frames) {
			sent, place = frames[node:node+1], slices.Index(samples.Sorted(frames), node)
		}
		// It has lost once against each frame that was sent ahead of its own.
		if strings.Count(said, "l") != place {
			t.Fatalf("of %v node %d is told %q; its frame is number %d", frames, node, said, place)
		}
		if !samples.Are(b.sent[node], sent...) || !samples.Are(b.taken[node], taken[node]...) {
			t.Fatalf("of %v node %d has sent %v, and taken %v", frames, node, b.sent[node], b.taken[node])
		}
		if c := b.n.Nodes[node]; c.Conf != (api.Conf{}) || c.Has {
			t.Fatalf("of %v node %d is left with %+v", frames, node, c)
		}
	}
}

// Frames that differ in one thing alone: in any bit of the identifier, the kind, or
// whether they are remote.
func TestFramesThatDifferInOneThing(t *testing.T) {
	for _, base := range []api.Frame{samples.Made(0x2aa, false, false, 2), samples.Made(0x0aaa5555, true, false, 2)} {
		var l []api.Frame
		long := 11
		if base.Ext {
			long = 29
		}
		for bit := range long {
			other := base
			other.ID ^= 1 << bit
			l = append(l, other)
		}
		remote := base
		remote.Remote, remote.Data = true, nil
		kind := base
		// The same upper bits, and the other kind.
		kind.Ext = !base.Ext
		kind.ID = base.ID << 18
		if base.Ext {
			kind.ID = base.ID >> 18
		}
		for _, other := range append(l, remote, kind) {
			for _, frames := range [][]api.Frame{{base, other}, {other, base}} {
				n := given(t, given(t, made(t, 3), 0, frames[0]), 1, frames[1])
				checkAtOnce(t, n, frames)
			}
		}
	}
}

// A node that has lost the arbitration takes the frame that has won, keeps its own, and
// sends it next, unless it is dropped then.
func TestNodesThatLost(t *testing.T) {
	for _, f := range samples.Some() {
		for _, g := range samples.Some() {
			if !frame.Before(f, g) {
				continue
			}
			b := newRun(t, given(t, given(t, made(t, 3), 2, f), 1, g))
			for !strings.HasSuffix(b.told[1], "l") {
				b.step()
			}
			if c := b.n.Nodes[1]; !c.Has || c.Sends || !samples.Same(c.Give, g) || !b.n.Nodes[2].Sends {
				t.Fatalf("against %v, with %v, node 1 is %+v", f, g, c)
			}
			b.steps(len(samples.OnBus(f)) - len(b.row))
			if b.row != samples.OnBus(f) || !samples.Are(b.sent[2], f) || !samples.Are(b.taken[0], f) || !samples.Are(b.taken[1], f) || len(b.sent[1]) > 0 {
				t.Fatalf("of %v and %v %q is on the bus", f, g, b.row)
			}
			without, ok := net.Drop(b.n, 1)
			if !ok || !net.Quiet(behind(t, without, 3)) {
				t.Fatalf("behind %v Drop of %v is %v", f, g, ok)
			}
			b.steps(3 + len(samples.OnBus(g)))
			if b.row != samples.OnBus(f)+"rrr"+samples.OnBus(g) || !samples.Are(b.sent[1], g) || !samples.Are(b.taken[0], f, g) || !samples.Are(b.taken[2], g) {
				t.Fatalf("behind %v and %v %q is on the bus", f, g, b.row)
			}
		}
	}
}

// One receiver has a flip at the last bit but one: it alone does not take the frame. It
// is sent again, seventeen bits after it, and taken by all.
func TestFlipAtTheLastBitButOne(t *testing.T) {
	frames := samples.Some()
	for k, f := range frames {
		nodes := []int{2, 3, 4, 5, 32}[k%5]
		from := k * 7 % nodes
		n := given(t, made(t, nodes), from, f)
		for at := range nodes {
			if at != from {
				checkLastButOne(t, n, f, from, at, []int{at})
				checkLastButOne(t, n, f, from, at, []int{at, at})
			}
		}
	}
}

// checkLastButOne holds a net to what becomes of it if the frame of a node meets these
// flips of another one at the last bit but one.
func checkLastButOne(t *testing.T, n api.Net, f api.Frame, from, at int, flips []int) {
	t.Helper()
	s := samples.OnBus(f)
	b := newRun(t, n)
	b.steps(len(s) - 2)
	b.step(flips...)
	b.steps(1 + 17 + len(s))
	ahead, between := many("-", len(s)-2), many("-", 17)
	if want := s[:len(s)-1] + "d" + "dddddd" + many("r", 11) + s; b.row != want {
		t.Fatalf("%v: %q is on the bus, not %q", f, b.row, want)
	}
	for node, said := range b.told {
		want := ahead + "to" + between + ahead + "t-"
		taken, conf := []api.Frame{f, f}, api.Conf{}
		switch node {
		case from:
			want, taken, conf.TEC = ahead+"-b"+between+ahead+"-s", nil, 7
		case at:
			want, taken, conf.REC = ahead+"m-"+between+ahead+"t-", []api.Frame{f}, 8
		}
		if said != want || !samples.Are(b.taken[node], taken...) || b.n.Nodes[node].Conf != conf {
			t.Fatalf("%v, a flip of %d: node %d is told %q, not %q, and has %v", f, at, node, said, want, b.n.Nodes[node].Conf)
		}
		if node != from && len(b.sent[node]) > 0 || node == from && !samples.Are(b.sent[node], f) {
			t.Fatalf("%v, a flip of %d: node %d has sent %v", f, at, node, b.sent[node])
		}
	}
	if !net.Quiet(behind(t, b.n, 3)) {
		t.Fatalf("%v: behind it it is not quiet", f)
	}
}

// The sender crashes ahead of the second time: one receiver never has the frame.
func TestSenderCrashesBetween(t *testing.T) {
	for wait := range 17 {
		s := samples.OnBus(first)
		b := newRun(t, given(t, made(t, 4), 3, first))
		b.steps(len(s) - 2)
		b.step(1, 1)
		b.steps(1 + wait)
		b.n = crashed(t, b.n, 3)
		b.steps(300)
		if !samples.Are(b.taken[0], first) || !samples.Are(b.taken[2], first) || len(b.taken[1]) > 0 || len(b.sent[3]) > 0 || !net.Quiet(b.n) {
			t.Errorf("a crash %d bits behind it: %v is taken, and %v sent; quiet is %v", wait, b.taken, b.sent, net.Quiet(b.n))
		}
	}
}

// without is n with these nodes alone.
func without(n api.Net, left []int) api.Net {
	few := api.Net{Bits: n.Bits, Crashed: make([]bool, len(left))}
	for _, node := range left {
		few.Nodes = append(few.Nodes, n.Nodes[node])
	}
	return few
}

// at are the things of a list that belong to these nodes.
func at[T any](l []T, left []int) []T {
	var some []T
	for _, node := range left {
		some = append(some, l[node])
	}
	return some
}

// Nodes that have crashed are as if they were not there, whenever they have, whatever
// they have, and whatever they sample.
func TestCrashedAreNotThere(t *testing.T) {
	frames := samples.Some()
	for seed := range uint64(150) {
		r := rand.New(rand.NewPCG(seed, 99))
		nodes := 3 + r.IntN(4)
		n := made(t, nodes)
		for node := range nodes {
			if r.IntN(2) == 0 {
				n = given(t, n, node, frames[r.IntN(len(frames))])
			}
		}
		n = behind(t, n, r.IntN(150)*int(seed%3))
		var left, down []int
		for i, node := range r.Perm(nodes) {
			if i < 2 || r.IntN(2) == 0 {
				left = append(left, node)
			} else {
				down = append(down, node)
			}
		}
		slices.Sort(left)
		n = crashed(t, n, down...)
		checkWithout(t, r, n, left, down)
	}
}

// checkWithout lets a net go on, and one with those nodes alone that have not crashed.
func checkWithout(t *testing.T, r *rand.Rand, n api.Net, left, down []int) {
	t.Helper()
	few := without(n, left)
	frames := samples.Some()
	for range 400 {
		if place := r.IntN(len(left)); r.IntN(50) == 0 {
			f := frames[r.IntN(len(frames))]
			n, _ = net.Give(n, left[place], f)
			few, _ = net.Give(few, place, f)
		}
		var flips, fewFlips []int
		for place, node := range left {
			if r.IntN(200) == 0 {
				flips, fewFlips = append(flips, node), append(fewFlips, place)
			}
		}
		for _, node := range down {
			if r.IntN(2) == 0 {
				flips = append(flips, node)
			}
		}
		next, line := stepped(t, n, flips...)
		fewNext, fewLine := stepped(t, few, fewFlips...)
		n, few = next, fewNext
		here := api.Line{Bus: line.Bus, Drove: at(line.Drove, left), Sampled: at(line.Sampled, left), Happens: at(line.Happens, left)}
		if !same(without(n, left), few) || !sameLine(here, fewLine) {
			t.Fatalf("without %v it was\n%+v, and with them\n%+v", down, fewLine, line)
		}
		if net.Quiet(n) != net.Quiet(few) {
			t.Fatalf("without %v Quiet is %v", down, net.Quiet(few))
		}
	}
}

// The chapter's examples.
func TestExamples(t *testing.T) {
	for _, f := range samples.Some() {
		s := samples.Wire(f)
		b := newRun(t, given(t, made(t, 2), 0, f))
		b.steps(len(s))
		if b.told[0] != many("-", len(s)-1)+"s" || b.told[1] != many("-", len(s)-2)+"t-" || !samples.Are(b.sent[0], f) || !samples.Are(b.taken[1], f) {
			t.Errorf("%v: told is %q", f, b.told)
		}
		// Both crash, at any bit.
		n := given(t, made(t, 2), 0, f)
		for range len(s) {
			if _, line := stepped(t, crashed(t, n, 0, 1)); !line.Bus || !slices.Equal(line.Drove, []bool{true, true}) {
				t.Fatalf("%v: if both have crashed it was %+v", f, line)
			}
			n, _ = stepped(t, n)
		}
		// A flip of the second node in the first step.
		n, line := stepped(t, given(t, made(t, 2), 0, f), 1)
		if !line.Sampled[1] || line.Sampled[0] || !samples.SameCtl(n.Nodes[1], api.Ctl{}) || !n.Nodes[0].Sends {
			t.Errorf("%v: with a flip in the first step it was %+v, and is %+v", f, line, n)
		}
		l := rows.Of(s)
		for _, bit := range l[1:6] {
			if drives := ctl.Drive(n.Nodes[0]); drives != bit {
				t.Errorf("%v: with a flip in the first step node 0 drives %v", f, drives)
			}
			n, _ = stepped(t, n)
		}
	}
}
