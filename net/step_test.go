package net_test

import (
	"math/rand/v2"
	"slices"
	"testing"

	"jackstay/api"
	"jackstay/ctl"
	"jackstay/net"
	"jackstay/rows"
	"jackstay/samples"
)

// P9.2: bits.

// check holds a step to what it should be.
func check(t *testing.T, n api.Net, flips []int) (api.Net, api.Line) {
	t.Helper()
	got, line, e := net.Step(n, flips)
	want, is := wanted(n, flips)
	if e != api.OK || !same(got, want) {
		t.Fatalf("with flips of %v a step from\n%+v makes\n%+v, error %d, not\n%+v", flips, n, got, e, want)
	}
	if !sameLine(line, is) {
		t.Fatalf("with flips of %v a step from\n%+v was\n%+v, not\n%+v", flips, n, line, is)
	}
	return got, line
}

// All nodes that may sample inverted, and all that may have crashed.
func TestStepOfAllNodes(t *testing.T) {
	for _, n := range nets(t) {
		nodes := min(len(n.Nodes), 5)
		for down := range uint32(1) << nodes {
			x := n
			for node := range nodes {
				if down>>node&1 == 1 {
					x = crashed(t, x, node)
				}
			}
			for turned := range uint32(1) << nodes {
				var flips []int
				for node := range nodes {
					if turned>>node&1 == 1 {
						flips = append(flips, node)
					}
				}
				check(t, x, flips)
			}
		}
	}
}

// What each node drives is ANDed, in nets of all sizes: each single one that is dominant.
func TestBus(t *testing.T) {
	for nodes := 2; nodes <= 32; nodes++ {
		n := made(t, nodes)
		if next, line := check(t, n, nil); !line.Bus || !same(next, api.Net{Nodes: n.Nodes, Crashed: n.Crashed, Bits: 1}) {
			t.Errorf("of %d idle nodes %+v is on the bus", nodes, line)
		}
		for node := range nodes {
			x := given(t, n, node, first)
			next, line := check(t, x, nil)
			if line.Bus || !next.Nodes[node].Sends {
				t.Errorf("with a start of %d %+v is on the bus", node, line)
			}
			for i, drove := range line.Drove {
				if drove != (i != node) || line.Sampled[i] || next.Nodes[i].Phase != api.PhaseFrame {
					t.Errorf("with a start of %d node %d drives %v, and becomes %+v", node, i, drove, next.Nodes[i])
				}
			}
			// One that has crashed does not start.
			if next, line := check(t, crashed(t, x, node), nil); !line.Bus || next.Nodes[node].Phase != api.PhaseIdle {
				t.Errorf("with a start of %d, which has crashed, %+v is on the bus", node, line)
			}
		}
	}
}

// A number that occurs twice among the flips is one flip, and so it is if it occurs more
// often; their order does not matter.
func TestFlipsThatOccurTwice(t *testing.T) {
	for _, n := range nets(t) {
		for _, x := range []struct{ flips, set []int }{
			{[]int{}, nil}, {[]int{0, 0}, []int{0}}, {[]int{1, 1}, []int{1}}, {[]int{1, 1, 1}, []int{1}},
			{[]int{1, 0, 1}, []int{0, 1}}, {[]int{1, 0, 0, 1}, []int{0, 1}}, {[]int{0, 1, 0, 1, 0}, []int{1, 0}},
		} {
			got, line := check(t, n, x.flips)
			want, is := check(t, n, x.set)
			if !same(got, want) || !sameLine(line, is) {
				t.Fatalf("flips of %v are others than those of %v", x.flips, x.set)
			}
		}
		last := len(n.Nodes) - 1
		all := slices.Repeat([]int{last, 0}, 1000)
		got, line := check(t, n, all)
		want, is := check(t, n, []int{0, last})
		if !same(got, want) || !sameLine(line, is) {
			t.Fatalf("flips of %d and %d are others if there are many", 0, last)
		}
	}
}

// Flips of wrong numbers, alone, and at each place among others.
func TestStepWithWrongFlips(t *testing.T) {
	for k, n := range nets(t) {
		last := len(n.Nodes) - 1
		for _, wrong := range noNodes(n) {
			for _, flips := range [][]int{{wrong}, {wrong, wrong}, {wrong, 0}, {0, wrong}, {0, wrong, last}, {last, 0, wrong}, {0, 0, wrong, 0}} {
				got, line, e := net.Step(n, flips)
				if e != api.ErrArg || !itself(got, n) || !sameLine(line, api.Line{}) {
					t.Fatalf("net %d: Step with flips of %v is\n%+v\n%+v, error %d", k, flips, got, line, e)
				}
			}
		}
	}
}

// Bits is how many bits there were; nothing else is counted.
func TestBits(t *testing.T) {
	n := made(t, 3)
	for k := range 300 {
		if n.Bits != k {
			t.Fatalf("behind %d bits Bits is %d", k, n.Bits)
		}
		switch k {
		case 10:
			n = given(t, n, 0, first)
			n = given(t, n, 1, second)
			n, _ = net.Drop(n, 1)
		case 20, 150, 200:
			n = crashed(t, n, k%3)
		}
		if _, _, e := net.Step(n, []int{3}); e != api.ErrArg {
			t.Fatalf("behind %d bits flips of 3 are error %d", k, e)
		}
		if n.Bits != k {
			t.Fatalf("behind %d bits, and an error, Bits is %d", k, n.Bits)
		}
		n, _ = stepped(t, n, [][]int{nil, {1}, {0, 0}}[k%3]...)
	}
}

// Nets with frames, crashes, flips, and counters that are set on the way, go on as the
// chapter says, bit by bit.
func TestManySteps(t *testing.T) {
	met := map[uint8]int{}
	frames := samples.Some()
	for seed := range uint64(60) {
		r := rand.New(rand.NewPCG(seed, 9))
		n := made(t, 2+r.IntN(5))
		if seed%10 == 9 {
			n = made(t, 32)
		}
		faults := []int{30, 100, 1000}[seed%3]
		for range 1500 {
			node := r.IntN(len(n.Nodes))
			switch c := &n.Nodes[node]; r.IntN(200) {
			case 0, 1, 2, 3:
				n, _ = net.Give(n, node, frames[r.IntN(len(frames))])
			case 4:
				n, _ = net.Drop(n, node)
			case 5:
				if r.IntN(8) == 0 {
					n = crashed(t, n, node)
				}
			case 6:
				if !c.Conf.Off {
					c.Conf.TEC, c.Conf.REC = r.IntN(256), r.IntN(256)
				}
			}
			var flips []int
			for i := range n.Nodes {
				if r.IntN(faults) == 0 {
					flips = append(flips, i)
				}
			}
			next, line := check(t, n, flips)
			n = next
			for _, h := range line.Happens {
				met[h.What]++
			}
		}
	}
	for what := api.HapNone; what <= api.HapOff; what++ {
		if met[what] < 5 {
			t.Errorf("%q happened %d times", samples.Letters[what], met[what])
		}
	}
}

// A node that is off hears the bus, and comes on again; what it was given is sent then.
func TestOff(t *testing.T) {
	n := made(t, 3)
	n.Nodes[1].Conf.TEC = 255
	r := newRun(t, given(t, n, 1, first))
	r.step(1)
	if r.told[1] != "x" || r.n.Nodes[1].Phase != api.PhaseOff || !r.n.Nodes[1].Has {
		t.Fatalf("with an error it is told %q, and is %+v", r.told[1], r.n.Nodes[1])
	}
	// The flags of the others, who have met a start without a frame, and the frame of one
	// of them cut what it counts: behind that one row of 11 bits is missing.
	r.steps(11*128 - 1)
	r.n = given(t, r.n, 0, second)
	r.steps(len(samples.OnBus(second)) + 3)
	if !samples.Are(r.sent[0], second) || !samples.Are(r.taken[2], second) || len(r.taken[1]) > 0 || r.n.Nodes[1].Phase != api.PhaseOff {
		t.Fatalf("while it is off %v is sent, and taken %v", r.sent, r.taken)
	}
	r.steps(11)
	if r.told[1][len(r.told[1])-1] != 'n' || r.n.Nodes[1].Conf != (api.Conf{}) {
		t.Fatalf("on again it is told %q, and is %+v", r.told[1], r.n.Nodes[1])
	}
	r.steps(len(samples.OnBus(first)))
	if !samples.Are(r.sent[1], first) || !samples.Are(r.taken[0], first) || !samples.Are(r.taken[2], second, first) {
		t.Errorf("on again %v is sent, and taken %v", r.sent, r.taken)
	}
}

// sampled is c behind the bits of s.
func sampled(c api.Ctl, s string) api.Ctl {
	for _, bit := range rows.Of(s) {
		c, _ = ctl.Step(c, bit)
	}
	return c
}

// What one node does makes a net quiet, or not, unless it has crashed.
func TestQuiet(t *testing.T) {
	s := samples.OnBus(second)
	passive := api.Ctl{Conf: api.Conf{TEC: 130}}
	with, _ := ctl.Give(passive, second)
	off := api.Ctl{Phase: api.PhaseOff, Conf: api.Conf{TEC: 256, Off: true}}
	for what, x := range map[string]struct {
		c     api.Ctl
		phase uint8
		quiet bool
	}{
		"idle":               {api.Ctl{}, api.PhaseIdle, true},
		"idle, passive":      {passive, api.PhaseIdle, true},
		"in a frame":         {sampled(api.Ctl{}, s[:1]), api.PhaseFrame, false},
		"at its end":         {sampled(api.Ctl{}, s[:len(s)-1]), api.PhaseFrame, false},
		"in a flag":          {sampled(api.Ctl{}, "dddddd"), api.PhaseFlag, false},
		"in a weak one":      {sampled(passive, "dddddd"), api.PhaseWeak, false},
		"overloaded":         {sampled(api.Ctl{}, s+"d"), api.PhaseOver, false},
		"waiting":            {sampled(api.Ctl{}, many("d", 12)), api.PhaseWait, false},
		"delimiting":         {sampled(api.Ctl{}, many("d", 12)+"r"), api.PhaseDelim, false},
		"between":            {sampled(api.Ctl{}, s), api.PhaseInter, false},
		"nearly idle":        {sampled(api.Ctl{}, s+"rr"), api.PhaseInter, false},
		"idle again":         {sampled(api.Ctl{}, s+"rrr"), api.PhaseIdle, true},
		"holding back":       {sampled(with, s+"rrr"), api.PhaseHold, false},
		"behind that":        {sampled(with, s+"rrr"+many("r", 8)), api.PhaseIdle, true},
		"off":                {off, api.PhaseOff, true},
		"nearly on":          {sampled(off, many("r", 11*128-1)), api.PhaseOff, true},
		"on again":           {sampled(off, many("r", 11*128)), api.PhaseIdle, true},
		"idle behind a flag": {sampled(api.Ctl{}, many("d", 12)+many("r", 11)), api.PhaseIdle, true},
	} {
		if x.c.Phase != x.phase {
			t.Errorf("%s: it is %+v", what, x.c)
		}
		for _, nodes := range []int{2, 3, 32} {
			for _, node := range []int{0, 1, nodes - 1} {
				n := changed(made(t, nodes), node, x.c)
				if net.Quiet(n) != x.quiet || !net.Quiet(crashed(t, n, node)) {
					t.Errorf("%s: Quiet is %v, and %v if it has crashed", what, net.Quiet(n), net.Quiet(crashed(t, n, node)))
				}
				other := (node + 1) % nodes
				if net.Quiet(crashed(t, n, other)) != x.quiet {
					t.Errorf("%s: Quiet is %v if another one has crashed", what, !x.quiet)
				}
				// A frame that waits makes it less quiet, unless the node is off.
				n = given(t, n, node, first)
				if net.Quiet(n) != (x.phase == api.PhaseOff) || !net.Quiet(crashed(t, n, node)) {
					t.Errorf("%s, with a frame: Quiet is %v", what, net.Quiet(n))
				}
				if x.quiet && net.Quiet(given(t, n, other, first)) {
					t.Errorf("%s: Quiet is true with a frame of another one", what)
				}
			}
		}
	}
}

// Quiet is true from there on where nothing is left to do.
func TestQuietIsTheEnd(t *testing.T) {
	for _, f := range samples.Some() {
		n := made(t, 3)
		if !net.Quiet(n) {
			t.Error("a new net is not quiet")
		}
		n = given(t, n, 1, f)
		for k := range len(samples.OnBus(f)) + 3 {
			if net.Quiet(n) {
				t.Fatalf("%v: behind %d bits it is quiet", f, k)
			}
			n, _ = stepped(t, n)
		}
		for range 20 {
			if !net.Quiet(n) {
				t.Fatalf("%v: behind it it is not quiet, but %+v", f, n)
			}
			n, _ = stepped(t, n)
		}
	}
	if !net.Quiet(crashed(t, given(t, made(t, 2), 0, first), 0, 1)) {
		t.Error("a net in which all nodes have crashed is not quiet")
	}
}

// Sampled is what is on the bus, or the other kind of bit, for nodes that have crashed,
// too, and whatever they have.
func TestSampledByCrashedNodes(t *testing.T) {
	n := crashed(t, given(t, made(t, 4), 0, first), 1, 3)
	for _, bit := range rows.Of(samples.OnBus(first)) {
		next, line := stepped(t, n, 1)
		if want := []bool{bit, !bit, bit, bit}; line.Bus != bit || !slices.Equal(line.Sampled, want) {
			t.Fatalf("of %v %v is sampled", line.Bus, line.Sampled)
		}
		for _, node := range []int{1, 3} {
			if !line.Drove[node] || !sameHappen(line.Happens[node], api.Happen{}) || !samples.SameCtl(next.Nodes[node], api.Ctl{}) {
				t.Fatalf("what has crashed drives %v, is told %v, and becomes %+v", line.Drove[node], line.Happens[node], next.Nodes[node])
			}
		}
		n = next
	}
	if n.Nodes[0].Has {
		t.Errorf("it is %+v", n)
	}
}
