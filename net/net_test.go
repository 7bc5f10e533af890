package net_test

import (
	"math"
	"testing"

	"jackstay/api"
	"jackstay/ctl"
	"jackstay/net"
	"jackstay/samples"
)

// P9.1: nets, and frames of their nodes.

func TestNew(t *testing.T) {
	for nodes := 2; nodes <= 32; nodes++ {
		n, e := net.New(nodes)
		if want := (api.Net{Nodes: make([]api.Ctl, nodes), Crashed: make([]bool, nodes)}); e != api.OK || !same(n, want) {
			t.Errorf("New(%d) is %+v, error %d", nodes, n, e)
		}
	}
}

func TestNewOfWrongNumbers(t *testing.T) {
	for _, nodes := range []int{math.MinInt, -32, -2, -1, 0, 1, 33, 34, 64, 256 + 2, 1<<32 + 2, math.MaxInt} {
		if n, e := net.New(nodes); e != api.ErrArg || n.Nodes != nil || n.Crashed != nil || n.Bits != 0 {
			t.Errorf("New(%d) is %+v, error %d", nodes, n, e)
		}
	}
}

// Give is ctl.Give at one node; all others stay as they are.
func TestGive(t *testing.T) {
	for k, n := range nets(t) {
		for node, c := range n.Nodes {
			for _, f := range samples.Some() {
				got, e := net.Give(n, node, f)
				with, want := ctl.Give(c, f)
				switch {
				case n.Crashed[node]:
					want = api.ErrArg
				case want == api.OK:
					if e != api.OK || !same(got, changed(n, node, with)) {
						t.Fatalf("net %d: Give of %v to %d is %+v, error %d", k, f, node, got, e)
					}
					continue
				}
				if e != want || !itself(got, n) {
					t.Fatalf("net %d: Give of %v to %d is %+v, error %d, not %d", k, f, node, got, e, want)
				}
			}
		}
	}
}

// Each error, and of several ones the first.
func TestGiveWithErrors(t *testing.T) {
	n := crashed(t, given(t, made(t, 4), 0, first), 2)
	n = crashed(t, given(t, n, 3, first), 3)
	for what, x := range map[string]struct {
		node         int
		right, wrong api.Errno
	}{
		"a frame is there":                  {0, api.ErrFull, api.ErrFrame},
		"no frame is there":                 {1, api.OK, api.ErrFrame},
		"it has crashed":                    {2, api.ErrArg, api.ErrArg},
		"it has crashed, a frame is there":  {3, api.ErrArg, api.ErrArg},
		"there is no such node":             {4, api.ErrArg, api.ErrArg},
		"the number is negative":            {-1, api.ErrArg, api.ErrArg},
		"the number is the least of all":    {math.MinInt, api.ErrArg, api.ErrArg},
		"the number is the greatest of all": {math.MaxInt, api.ErrArg, api.ErrArg},
	} {
		if got, e := net.Give(n, x.node, second); e != x.right || e != api.OK && !itself(got, n) {
			t.Errorf("%s: Give is %+v, error %d, not %d", what, got, e, x.right)
		}
		for _, f := range samples.Wrong() {
			if got, e := net.Give(n, x.node, f); e != x.wrong || !itself(got, n) {
				t.Fatalf("%s: Give of %v is %+v, error %d, not %d", what, f, got, e, x.wrong)
			}
		}
	}
}

func TestNodesThatAreNone(t *testing.T) {
	for k, n := range nets(t) {
		for _, node := range noNodes(n) {
			if got, e := net.Give(n, node, first); e != api.ErrArg || !itself(got, n) {
				t.Errorf("net %d: Give to %d is %+v, error %d", k, node, got, e)
			}
			if got, ok := net.Drop(n, node); ok || !itself(got, n) {
				t.Errorf("net %d: Drop of %d is %+v, %v", k, node, got, ok)
			}
			if got, e := net.Crash(n, node); e != api.ErrArg || !itself(got, n) {
				t.Errorf("net %d: Crash of %d is %+v, error %d", k, node, got, e)
			}
		}
	}
}

// Drop is ctl.Drop at one node; all others stay as they are.
func TestDrop(t *testing.T) {
	done := 0
	for k, n := range nets(t) {
		for node, c := range n.Nodes {
			got, ok := net.Drop(n, node)
			without, want := ctl.Drop(c)
			if n.Crashed[node] || !want {
				if ok || !itself(got, n) {
					t.Fatalf("net %d: Drop of %d is %+v, %v", k, node, got, ok)
				}
				continue
			}
			done++
			if !ok || !same(got, changed(n, node, without)) {
				t.Fatalf("net %d: Drop of %d is %+v, %v", k, node, got, ok)
			}
		}
	}
	if done < 50 {
		t.Errorf("%d frames were dropped", done)
	}
}

// A node drops its frame ahead of the start, or when it has lost the arbitration, but
// not as long as it sends it; and it is free for another one then.
func TestDropAndGive(t *testing.T) {
	n := given(t, given(t, made(t, 3), 0, first), 1, second)
	for k := range len(samples.OnBus(first)) {
		for node, f := range []api.Frame{first, second} {
			got, ok := net.Drop(n, node)
			if want := k == 0 || !n.Nodes[node].Sends; ok != want {
				t.Fatalf("behind %d bits Drop of %d is %v", k, node, ok)
			}
			if !ok {
				continue
			}
			if again, ok := net.Drop(got, node); ok || !itself(again, got) {
				t.Fatalf("behind %d bits a second Drop of %d is %+v, %v", k, node, again, ok)
			}
			if again := given(t, got, node, f); !same(again, n) {
				t.Fatalf("behind %d bits the frame of %d, given again, makes\n%+v of\n%+v", k, node, again, n)
			}
		}
		n, _ = stepped(t, n)
	}
	if n.Nodes[0].Has || !n.Nodes[1].Has {
		t.Errorf("behind the first frame it is %+v", n)
	}
}

// A crash changes nothing but that the node has crashed.
func TestCrash(t *testing.T) {
	for k, n := range nets(t) {
		for node := range n.Nodes {
			got, e := net.Crash(n, node)
			want := n
			want.Crashed = make([]bool, len(n.Nodes))
			copy(want.Crashed, n.Crashed)
			want.Crashed[node] = true
			if e != api.OK || !same(got, want) {
				t.Fatalf("net %d: Crash of %d is %+v, error %d", k, node, got, e)
			}
			// A second crash is none.
			if again := crashed(t, got, node); !same(again, got) {
				t.Fatalf("net %d: a second Crash of %d is %+v", k, node, again)
			}
		}
	}
}

// A crash is for good: whatever is done, the node stays as it was.
func TestCrashIsForGood(t *testing.T) {
	for at := range len(samples.OnBus(first)) + 20 {
		n := given(t, given(t, made(t, 4), 2, first), 0, second)
		n = crashed(t, behind(t, n, at), 2)
		c := n.Nodes[2]
		for k := range 150 {
			n, _ = stepped(t, n, [][]int{nil, {2}, {0, 2}, nil, nil}[k%5]...)
			if _, e := net.Give(n, 2, second); e != api.ErrArg {
				t.Fatalf("behind %d bits, and %d more, Give is error %d", at, k, e)
			}
			if _, ok := net.Drop(n, 2); ok {
				t.Fatalf("behind %d bits, and %d more, Drop is true", at, k)
			}
			if k == 50 {
				n = crashed(t, n, 1)
			}
			if !n.Nodes[1].Has && k%60 == 7 && k < 50 {
				n = given(t, n, 1, first)
			}
			if !n.Crashed[2] || !samples.SameCtl(n.Nodes[2], c) {
				t.Fatalf("behind %d bits, and %d more, it is %v\n%+v, not\n%+v", at, k, n.Crashed, n.Nodes[2], c)
			}
		}
	}
}
