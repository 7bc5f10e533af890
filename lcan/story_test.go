package lcan_test

import (
	"math/rand/v2"
	"testing"

	"jackstay/api"
	"jackstay/lcan"
)

// P16.4: what follows from all that.

// Long runs are as the second telling has them, with buses of all sizes.
func TestStories(t *testing.T) {
	done, refused := 0, 0
	for seed := range uint64(60) {
		r := rand.New(rand.NewPCG(seed, 4))
		s := story{nodes: 2 + r.IntN(5)}
		if seed%10 == 9 {
			s.nodes = 32
		}
		for range 300 {
			before := len(s.l)
			s = goesOn(t, s, chosen(r, s.nodes))
			done += len(s.l) - before
			refused += 1 - (len(s.l) - before)
			node := r.IntN(s.nodes)
			misses(t, s.bus(), node, s.missing(node))
		}
	}
	if done < 3000 || refused < 3000 {
		t.Errorf("%d events were possible, and %d not", done, refused)
	}
}

// Taking a frame again changes nothing, now or later, as long as the node is up, and the
// other one has that frame.
func TestTakingAgain(t *testing.T) {
	times := 0
	for seed := range uint64(30) {
		r := rand.New(rand.NewPCG(seed, 5))
		nodes := 2 + r.IntN(6)
		once, again := made(t, nodes), made(t, nodes)
		for range 400 {
			m := chosen(r, nodes)
			next, e := lcan.Step(once, m)
			other, g := lcan.Step(again, m)
			if e == api.OK && m.What == api.MayTake {
				other = behind(t, other, m, m)
				times++
			}
			if !same(next, other) || e != g {
				t.Fatalf("seed %d: with takes twice it is\n%+v, error %d, not\n%+v, error %d", seed, other, g, next, e)
			}
			once, again = next, other
		}
	}
	if times < 300 {
		t.Errorf("%d frames were taken again", times)
	}
}

// What is given is dropped or sent at most once, and has been given ahead of that.
func TestDroppedOrSentOnce(t *testing.T) {
	ends := []api.May{drops(0), sends(0)}
	for _, first := range ends {
		for _, second := range ends {
			s := behind(t, made(t, 3), gives(1), gives(0), takes(1, 0), first)
			becomes(t, s, second, nil)
			s = behind(t, s, takes(0, 1), offs(0), ons(0))
			becomes(t, s, second, nil)
			s = behind(t, s, gives(0), second)
			becomes(t, s, first, nil)
		}
	}
	for seed := range uint64(30) {
		r := rand.New(rand.NewPCG(seed, 6))
		nodes := 2 + r.IntN(6)
		s := made(t, nodes)
		open := make([]int, nodes)
		for range 500 {
			m := chosen(r, nodes)
			next, e := lcan.Step(s, m)
			if s = next; e != api.OK {
				continue
			}
			switch m.What {
			case api.MayGive:
				open[m.Node]++
			case api.MayDrop, api.MaySent:
				open[m.Node]--
			}
			for node, many := range open {
				if many < 0 || many > 1 || s.Nodes[node].Has != (many == 1) {
					t.Fatalf("seed %d: node %d has %d frames in %s", seed, node, many, text(s))
				}
			}
		}
	}
}

// Nobody takes a frame of a node that has none: each one that took it did so behind the
// give, and ahead of the end.
func TestNobodyTakesNothing(t *testing.T) {
	for nodes := 2; nodes <= 32; nodes++ {
		for node := range nodes {
			for from := range nodes {
				s := made(t, nodes)
				becomes(t, s, takes(node, from), nil)
				becomes(t, behind(t, s, gives(from), drops(from)), takes(node, from), nil)
				becomes(t, behind(t, s, gives(from), sends(from)), takes(node, from), nil)
				becomes(t, behind(t, s, gives(node), crashes(from)), takes(node, from), nil)
			}
		}
	}
}

// Silent grows by 1 with each frame that was sent while it was missing somewhere, however
// many nodes missed it, and with nothing else.
func TestSilent(t *testing.T) {
	silent, heard := 0, 0
	for seed := range uint64(40) {
		r := rand.New(rand.NewPCG(seed, 7))
		nodes := 2 + r.IntN(4)
		s := made(t, nodes)
		want := 0
		for range 600 {
			m := chosen(r, nodes)
			missing := lcan.Missing(s, m.Node)
			next, e := lcan.Step(s, m)
			if e == api.OK && m.What == api.MaySent {
				if len(missing) > 0 {
					want++
					silent++
				} else {
					heard++
				}
			}
			if s = next; s.Silent != want {
				t.Fatalf("seed %d: %v makes %s, not %d", seed, m, text(s), want)
			}
		}
	}
	if silent < 100 || heard < 100 {
		t.Errorf("%d frames were lost silently, and %d not", silent, heard)
	}
}

// Frames that all others take before they are sent are never lost silently, and those
// that one of them does not are, in buses of all sizes.
func TestSilentInBusesOfAllSizes(t *testing.T) {
	for nodes := 2; nodes <= 32; nodes++ {
		s := made(t, nodes)
		want := 0
		for node := range nodes {
			for without := range nodes {
				l := []api.May{gives(node)}
				for i := range nodes {
					if i != node && i != without {
						l = append(l, takes(i, node))
					}
				}
				if without != node {
					want++
				}
				s = behind(t, s, append(l, sends(node))...)
				if s.Silent != want {
					t.Fatalf("of %d nodes, %d without a frame of %d: Silent is %d, not %d", nodes, without, node, s.Silent, want)
				}
			}
		}
	}
}
