package lcan_test

import (
	"slices"
	"testing"

	"jackstay/api"
	"jackstay/lcan"
)

// P16.3: who did not take a frame.

// misses holds Missing to its result.
func misses(t *testing.T, s api.Lcan, node int, want []int) {
	t.Helper()
	if got := lcan.Missing(s, node); !slices.Equal(got, want) {
		t.Fatalf("of %s Missing(%d) is %v, not %v", text(s), node, got, want)
	}
}

func TestMissing(t *testing.T) {
	for _, x := range []struct {
		s    string
		node int
		want []int
	}{
		{"u: u u", 0, []int{1, 2}},
		{"u u: u", 1, []int{0, 2}},
		{"u u u:", 2, []int{0, 1}},
		{"u:1 u u", 0, []int{2}},
		{"u:2 u u", 0, []int{1}},
		{"u:12 u u", 0, nil},
		{"u: o u", 0, []int{2}},
		{"u: x u", 0, []int{2}},
		{"u: u ox", 0, []int{1}},
		{"u: o x", 0, nil},
		{"u:1 o u", 0, []int{2}},
		{"u:1 u o", 0, nil},
		// Those of others do not matter.
		{"u: u:02 u:0", 0, []int{1, 2}},
		{"u: u:02 u:0", 1, nil},
		{"u: u:02 u:0", 2, []int{1}},
		// Who has the frame may have crashed, or be off.
		{"x: u u", 0, []int{1, 2}},
		{"o:1 u u", 0, []int{2}},
		{"ox: u u", 0, []int{1, 2}},
		{"x:12 u u", 0, nil},
		// There is no frame.
		{"u u u", 0, nil},
		{"u u: u", 0, nil},
		{"o u: u", 0, nil},
		{"x u: u", 2, nil},
	} {
		misses(t, of(t, x.s), x.node, x.want)
	}
}

// A frame that is dropped, or sent, is missing nowhere any more; a new one everywhere.
func TestMissingFromGiveToEnd(t *testing.T) {
	for _, end := range []api.May{drops(1), sends(1)} {
		s := made(t, 4)
		for range 3 {
			misses(t, s, 1, nil)
			s = behind(t, s, gives(1))
			misses(t, s, 1, []int{0, 2, 3})
			s = behind(t, s, takes(2, 1))
			misses(t, s, 1, []int{0, 3})
			s = behind(t, s, offs(3))
			misses(t, s, 1, []int{0})
			s = behind(t, s, ons(3))
			misses(t, s, 1, []int{0, 3})
			s = behind(t, s, end)
		}
	}
}

func TestMissingOfNodesThatAreNone(t *testing.T) {
	for nodes := 2; nodes <= 32; nodes++ {
		s := made(t, nodes)
		for node := range nodes {
			s = behind(t, s, gives(node))
		}
		for _, node := range noNodes(nodes) {
			misses(t, s, node, nil)
		}
	}
}

// Buses of all sizes, in increasing order, behind takes in any order.
func TestMissingInOrder(t *testing.T) {
	for nodes := 2; nodes <= 32; nodes++ {
		for node := range nodes {
			s := behind(t, made(t, nodes), gives(node))
			var want []int
			for i := range nodes {
				if i != node {
					want = append(want, i)
				}
			}
			for len(want) > 0 {
				misses(t, s, node, want)
				at := len(want) * 7 % 5 % len(want)
				s = behind(t, s, takes(want[at], node))
				want = slices.Delete(want, at, at+1)
			}
			misses(t, s, node, nil)
		}
	}
}

// All that buses of two and three nodes may come to.
func TestMissingOfAllBuses(t *testing.T) {
	for nodes := 2; nodes <= 3; nodes++ {
		for _, s := range all(nodes) {
			for node := -1; node <= nodes; node++ {
				misses(t, s.bus(), node, s.missing(node))
			}
		}
	}
}
