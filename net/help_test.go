package net_test

import (
	"math"
	"slices"
	"strings"
	"testing"

	"jackstay/api"
	"jackstay/ctl"
	"jackstay/net"
	"jackstay/rows"
	"jackstay/samples"
)

// frames of which much is tried: the first one wins.
var (
	first  = api.Frame{ID: 0x155, Dlc: 2, Data: []byte{0x55, 0xff}}
	second = api.Frame{ID: 0x2aa, Dlc: 1, Data: []byte{0x55}}
)

// made is a net with so many nodes.
func made(t *testing.T, nodes int) api.Net {
	t.Helper()
	n, e := net.New(nodes)
	if e != api.OK {
		t.Fatalf("New(%d) is error %d", nodes, e)
	}
	return n
}

// given is n with a frame at a node.
func given(t *testing.T, n api.Net, node int, f api.Frame) api.Net {
	t.Helper()
	got, e := net.Give(n, node, f)
	if e != api.OK {
		t.Fatalf("Give of %v to %d is error %d", f, node, e)
	}
	return got
}

// crashed is n with nodes that have crashed.
func crashed(t *testing.T, n api.Net, nodes ...int) api.Net {
	t.Helper()
	for _, node := range nodes {
		next, e := net.Crash(n, node)
		if e != api.OK {
			t.Fatalf("Crash of %d is error %d", node, e)
		}
		n = next
	}
	return n
}

// stepped is n behind a bit, and that bit.
func stepped(t *testing.T, n api.Net, flips ...int) (api.Net, api.Line) {
	t.Helper()
	got, line, e := net.Step(n, flips)
	if e != api.OK {
		t.Fatalf("Step with flips of %v is error %d", flips, e)
	}
	return got, line
}

// behind is n behind so many bits.
func behind(t *testing.T, n api.Net, many int) api.Net {
	t.Helper()
	for range many {
		n, _ = stepped(t, n)
	}
	return n
}

// same reports whether two nets are.
func same(a, b api.Net) bool {
	return a.Bits == b.Bits && slices.Equal(a.Crashed, b.Crashed) && slices.EqualFunc(a.Nodes, b.Nodes, samples.SameCtl)
}

// sameHappen reports whether two happenings are.
func sameHappen(a, b api.Happen) bool { return a.What == b.What && samples.Same(a.Frame, b.Frame) }

// sameLine reports whether two bits were.
func sameLine(a, b api.Line) bool {
	return a.Bus == b.Bus && slices.Equal(a.Drove, b.Drove) && slices.Equal(a.Sampled, b.Sampled) && slices.EqualFunc(a.Happens, b.Happens, sameHappen)
}

// itself reports whether a net is the other one, in the same memory.
func itself(a, b api.Net) bool {
	return same(a, b) && &a.Nodes[0] == &b.Nodes[0] && &a.Crashed[0] == &b.Crashed[0]
}

// changed is a copy of n with another controller at a node.
func changed(n api.Net, node int, c api.Ctl) api.Net {
	n.Nodes = slices.Clone(n.Nodes)
	n.Nodes[node] = c
	return n
}

// wanted is what becomes of n with a bit, and what that bit is, as the chapter says it.
func wanted(n api.Net, flips []int) (api.Net, api.Line) {
	line := api.Line{Bus: true}
	for i, c := range n.Nodes {
		drove := true
		if !n.Crashed[i] {
			drove = ctl.Drive(c)
		}
		if !drove {
			line.Bus = false
		}
		line.Drove = append(line.Drove, drove)
	}
	next := api.Net{Crashed: n.Crashed, Bits: n.Bits + 1}
	for i, c := range n.Nodes {
		sampled := line.Bus
		if slices.Index(flips, i) >= 0 {
			sampled = !line.Bus
		}
		happen := api.Happen{}
		if !n.Crashed[i] {
			c, happen = ctl.Step(c, sampled)
		}
		next.Nodes = append(next.Nodes, c)
		line.Sampled = append(line.Sampled, sampled)
		line.Happens = append(line.Happens, happen)
	}
	return next, line
}

// noNodes are numbers that no node of n has.
func noNodes(n api.Net) []int {
	many := len(n.Nodes)
	return []int{-1, many, many + 1, -many, math.MinInt, math.MaxInt, 1 << 32, -1 << 32, 256, 1<<32 + 1}
}

// run is a net that goes on: what was on the bus, what each node was told, by letters,
// and which frames each one has sent and taken.
type run struct {
	t           *testing.T
	n           api.Net
	row         string
	told        []string
	sent, taken [][]api.Frame
}

// newRun is one from a net on.
func newRun(t *testing.T, n api.Net) *run {
	nodes := len(n.Nodes)
	return &run{t: t, n: n, told: make([]string, nodes), sent: make([][]api.Frame, nodes), taken: make([][]api.Frame, nodes)}
}

// step is a bit.
func (r *run) step(flips ...int) {
	r.t.Helper()
	next, line := stepped(r.t, r.n, flips...)
	r.n = next
	r.row += rows.Text([]bool{line.Bus})
	for i, h := range line.Happens {
		r.told[i] += samples.Letters[h.What : h.What+1]
		switch h.What {
		case api.HapSent:
			r.sent[i] = append(r.sent[i], h.Frame)
		case api.HapTook:
			r.taken[i] = append(r.taken[i], h.Frame)
		}
	}
}

// steps are so many bits.
func (r *run) steps(many int) {
	r.t.Helper()
	for range many {
		r.step()
	}
}

// many is s so many times.
func many(s string, times int) string { return strings.Repeat(s, times) }

// nets are some of many kinds: behind each bit of two frames that meet, with faults, and
// with nodes that have crashed, or are off.
func nets(t *testing.T) []api.Net {
	t.Helper()
	n := made(t, 5)
	n = given(t, given(t, n, 1, second), 3, first)
	var l []api.Net
	for k := range 150 {
		l = append(l, n)
		switch k {
		case 40:
			n = crashed(t, n, 0)
		case 120:
			// An error of a sender then, by which it goes off.
			n.Nodes[1].Conf.TEC = 250
		}
		if k%60 == 59 {
			n, _ = stepped(t, n, 2, 1)
		} else {
			n, _ = stepped(t, n)
		}
	}
	return append(l, made(t, 2), crashed(t, made(t, 3), 0, 1, 2), made(t, 32))
}
