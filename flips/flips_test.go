package flips_test

import (
	"cmp"
	"iter"
	"math"
	"slices"
	"testing"

	"jackstay/api"
	"jackstay/flips"
	"jackstay/rows"
)

// at is a flip.
func at(step int, node uint8) api.Flip { return api.Flip{At: step, Node: node} }

// grid are all flips of those nodes at many steps from a first one on: a right list.
func grid(first, many int, nodes ...uint8) []api.Flip {
	var l []api.Flip
	for i := range many {
		for _, node := range nodes {
			l = append(l, at(first+i, node))
		}
	}
	return l
}

// parts yields all lists that are left of l if some of it, or none, are left out.
func parts(l []api.Flip) iter.Seq[[]api.Flip] {
	return func(yield func([]api.Flip) bool) {
		for which := range 1 << len(l) {
			var part []api.Flip
			for i, f := range l {
				if which>>i&1 == 1 {
					part = append(part, f)
				}
			}
			if !yield(part) {
				return
			}
		}
	}
}

// wrongFlips are some that are none, at the edges, and far away.
func wrongFlips() []api.Flip {
	return []api.Flip{
		at(-1, 0), at(-1, 31), at(-api.MaxStep, 5), at(math.MinInt, 0),
		at(api.MaxStep+1, 0), at(api.MaxStep+1, 31), at(2*api.MaxStep, 5), at(math.MaxInt, 0),
		at(0, 32), at(5, 33), at(0, 64), at(api.MaxStep, 32), at(5, 128), at(5, 255),
		at(-1, 32), at(math.MaxInt, 255),
	}
}

// before tells which of two flips is the first one.
func before(a, b api.Flip) bool {
	return a.At < b.At || a.At == b.At && a.Node < b.Node
}

// oddOnes is what Make should return: what is left when of each two flips that are
// the same both are taken away.
func oddOnes(l []api.Flip) []api.Flip {
	var out []api.Flip
	for _, f := range l {
		if i := slices.Index(out, f); i >= 0 {
			out = slices.Delete(out, i, i+1)
			continue
		}
		i := 0
		for i < len(out) && before(out[i], f) {
			i++
		}
		out = slices.Insert(out, i, f)
	}
	return out
}

// made calls Make with flips that make a right list.
func made(t *testing.T, l []api.Flip) []api.Flip {
	t.Helper()
	out, e := flips.Make(l)
	if e != api.OK {
		t.Fatalf("Make of %d flips is error %d", len(l), e)
	}
	return out
}

// P5.1

func TestRight(t *testing.T) {
	for _, x := range []struct {
		l    []api.Flip
		want bool
	}{
		{nil, true},
		{[]api.Flip{at(0, 0)}, true},
		{[]api.Flip{at(0, 31)}, true},
		{[]api.Flip{at(api.MaxStep, 0)}, true},
		{[]api.Flip{at(api.MaxStep, 31)}, true},
		{[]api.Flip{at(0, 0), at(api.MaxStep, 31)}, true},
		{[]api.Flip{at(3, 0), at(5, 0)}, true},
		// The nodes count for equal steps alone.
		{[]api.Flip{at(3, 31), at(4, 0)}, true},
		{[]api.Flip{at(3, 0), at(3, 1)}, true},
		{[]api.Flip{at(3, 0), at(3, 31), at(4, 0), at(4, 1)}, true},
		// Not sorted.
		{[]api.Flip{at(5, 0), at(3, 0)}, false},
		{[]api.Flip{at(4, 0), at(3, 31)}, false},
		{[]api.Flip{at(3, 1), at(3, 0)}, false},
		{[]api.Flip{at(1, 0), at(2, 0), at(4, 0), at(3, 0)}, false},
		{[]api.Flip{at(1, 0), at(2, 1), at(2, 0), at(3, 0)}, false},
		{[]api.Flip{at(2, 0), at(1, 0), at(3, 0), at(4, 0)}, false},
		// Twice there.
		{[]api.Flip{at(3, 0), at(3, 0)}, false},
		{[]api.Flip{at(0, 31), at(0, 31)}, false},
		{[]api.Flip{at(1, 0), at(3, 7), at(3, 7), at(4, 0)}, false},
		{[]api.Flip{at(1, 0), at(3, 7), at(4, 0), at(4, 0)}, false},
		{[]api.Flip{at(3, 0), at(3, 0), at(3, 0)}, false},
	} {
		if flips.Right(x.l) != x.want {
			t.Errorf("Right(%v) is %v", x.l, !x.want)
		}
	}
}

func TestRightOfWhatAreNoFlips(t *testing.T) {
	for _, wrong := range wrongFlips() {
		if flips.Right([]api.Flip{wrong}) {
			t.Errorf("%v alone is right", wrong)
		}
		// Where it would be sorted.
		l := []api.Flip{at(0, 0), at(5, 0), at(api.MaxStep, 31), wrong}
		slices.SortFunc(l, func(a, b api.Flip) int {
			return cmp.Or(cmp.Compare(a.At, b.At), cmp.Compare(a.Node, b.Node))
		})
		if flips.Right(l) {
			t.Errorf("%v is right", l)
		}
	}
}

func TestRightOfAllShortLists(t *testing.T) {
	for l := range rows.Lists(append(grid(0, 2, 0, 31), at(api.MaxStep, 5), at(-1, 3), at(0, 32)), 4) {
		want := true
		for i, f := range l {
			want = want && f.At >= 0 && f.Node < 32 && (i == 0 || before(l[i-1], f))
		}
		if flips.Right(l) != want {
			t.Fatalf("Right(%v) is %v", l, !want)
		}
	}
}

func TestMake(t *testing.T) {
	a, b, c := at(3, 0), at(5, 0), at(5, 1)
	for _, x := range []struct{ l, want []api.Flip }{
		{nil, nil},
		{[]api.Flip{a}, []api.Flip{a}},
		{[]api.Flip{a, b, c}, []api.Flip{a, b, c}},
		{[]api.Flip{c, b, a}, []api.Flip{a, b, c}},
		{[]api.Flip{at(4, 0), at(3, 31)}, []api.Flip{at(3, 31), at(4, 0)}},
		{[]api.Flip{at(3, 31), at(3, 9), at(3, 10)}, []api.Flip{at(3, 9), at(3, 10), at(3, 31)}},
		{[]api.Flip{at(api.MaxStep, 31), at(api.MaxStep, 0), at(0, 31), at(0, 0)}, []api.Flip{at(0, 0), at(0, 31), at(api.MaxStep, 0), at(api.MaxStep, 31)}},
		// Twice: none is left. Three times: one is.
		{[]api.Flip{a, a}, nil},
		{[]api.Flip{a, a, a}, []api.Flip{a}},
		{[]api.Flip{a, a, a, a}, nil},
		{[]api.Flip{a, a, a, a, a}, []api.Flip{a}},
		{[]api.Flip{b, a, b}, []api.Flip{a}},
		{[]api.Flip{b, a, b, a}, nil},
		{[]api.Flip{b, a, b, a, b}, []api.Flip{b}},
		{[]api.Flip{a, a, b, c, c}, []api.Flip{b}},
		{[]api.Flip{c, a, b, b, a, c, c}, []api.Flip{c}},
		{[]api.Flip{a, b, b, c}, []api.Flip{a, c}},
		{[]api.Flip{a, a, a, b, b, c, c, c}, []api.Flip{a, c}},
		// Flips of the same step, or of the same node, are others.
		{[]api.Flip{b, c, b}, []api.Flip{c}},
		{[]api.Flip{a, b, a}, []api.Flip{b}},
	} {
		if got, e := flips.Make(x.l); !slices.Equal(got, x.want) || e != api.OK {
			t.Errorf("Make(%v) is %v, error %d, not %v", x.l, got, e, x.want)
		}
	}
}

func TestMakeOfAllShortLists(t *testing.T) {
	for l := range rows.Lists([]api.Flip{at(0, 0), at(0, 31), at(1, 0), at(api.MaxStep, 31)}, 7) {
		if got, e := flips.Make(l); !slices.Equal(got, oddOnes(l)) || e != api.OK || !flips.Right(got) {
			t.Fatalf("Make(%v) is %v, error %d", l, got, e)
		}
	}
}

// mixed are so many flips in no order, of many steps and all nodes; some are there
// more than once.
func mixed(many int) []api.Flip {
	var l []api.Flip
	for i := range many {
		n := i * i * 7919 % 1009
		l = append(l, at(n%61, uint8(n%32)))
	}
	return l
}

func TestMakeOfLongerLists(t *testing.T) {
	for many := range 300 {
		l := mixed(many)
		if got := made(t, l); !slices.Equal(got, oddOnes(l)) || !flips.Right(got) {
			t.Fatalf("Make of %d flips is %v, not %v", many, got, oddOnes(l))
		}
	}
}

// A right list stays as it is.
func TestMakeOfRightLists(t *testing.T) {
	for l := range parts(append(grid(0, 4, 0, 7, 31), at(api.MaxStep, 31))) {
		if got := made(t, l); !flips.Right(l) || !slices.Equal(got, l) {
			t.Fatalf("Make(%v) is %v", l, got)
		}
	}
}

func TestMakeOfWhatAreNoFlips(t *testing.T) {
	for _, wrong := range wrongFlips() {
		for _, l := range [][]api.Flip{nil, grid(3, 2, 1, 5), slices.Repeat(grid(0, 1, 0), 4)} {
			for place := range len(l) + 1 {
				other := slices.Insert(slices.Clone(l), place, wrong)
				if got, e := flips.Make(other); got != nil || e != api.ErrArg {
					t.Fatalf("Make(%v) is %v, error %d", other, got, e)
				}
				// Also if it is there twice, and would leave nothing.
				other = append(other, wrong)
				if got, e := flips.Make(other); got != nil || e != api.ErrArg {
					t.Fatalf("Make(%v) is %v, error %d", other, got, e)
				}
			}
		}
	}
}

// As many flips as may be, and one more: it is the result that counts.
func TestMaxFlips(t *testing.T) {
	all := grid(0, 1+api.MaxFlips/4, 0, 1, 30, 31)
	last := all[:api.MaxFlips]
	over := all[:api.MaxFlips+1]
	if !flips.Right(last) || flips.Right(over) || !flips.Right(over[1:]) {
		t.Errorf("%d flips are right: %v; one more: %v; without the first: %v", len(last), flips.Right(last), flips.Right(over), flips.Right(over[1:]))
	}
	for _, l := range [][]api.Flip{last, over[1:]} {
		if got, e := flips.Make(l); !slices.Equal(got, l) || e != api.OK {
			t.Errorf("Make of %d flips is %d, error %d", len(l), len(got), e)
		}
	}
	for _, l := range [][]api.Flip{over, all, append(slices.Clone(over), last[0], last[0])} {
		if got, e := flips.Make(l); got != nil || e != api.ErrFull {
			t.Errorf("Make of %d flips is %d, error %d", len(l), len(got), e)
		}
	}
	// More than may be are given, and no more are left.
	for _, x := range []struct{ l, want []api.Flip }{
		{append(slices.Clone(over), over[0]), over[1:]},
		{append(slices.Clone(over), over[api.MaxFlips]), last},
		{append(slices.Clone(all), all...), nil},
		{append(slices.Clone(all), all[5:]...), all[:5]},
		{make([]api.Flip, api.MaxFlips+1), over[:1]},
		{make([]api.Flip, api.MaxFlips+2), nil},
	} {
		if got, e := flips.Make(x.l); !slices.Equal(got, x.want) || e != api.OK {
			t.Errorf("Make of %d flips is %d, error %d", len(x.l), len(got), e)
		}
	}
}

// Of two errors the first one is returned.
func TestWrongFlipsAmongTooMany(t *testing.T) {
	l := grid(0, api.MaxFlips+1, 9)
	for _, place := range []int{0, 1, api.MaxFlips / 2, api.MaxFlips} {
		for _, wrong := range wrongFlips() {
			other := slices.Clone(l)
			other[place] = wrong
			if got, e := flips.Make(append(other, l...)); got != nil || e != api.ErrArg {
				t.Fatalf("with %v at %d Make is %v, error %d", wrong, place, got, e)
			}
			if got, e := flips.Make(append(other, at(7, 7))); got != nil || e != api.ErrArg {
				t.Fatalf("with %v at %d Make is %v, error %d", wrong, place, got, e)
			}
		}
	}
}

// P5.2

func TestMask(t *testing.T) {
	l := []api.Flip{at(0, 31), at(3, 0), at(5, 0), at(5, 1), at(5, 31), at(api.MaxStep, 0), at(api.MaxStep, 30)}
	for _, x := range []struct {
		at   int
		want uint32
	}{
		{0, 1 << 31},
		{1, 0},
		{2, 0},
		{3, 1},
		{4, 0},
		{5, 1<<31 | 3},
		{6, 0},
		{api.MaxStep - 1, 0},
		{api.MaxStep, 1<<30 | 1},
		// No flip is there.
		{-1, 0},
		{-5, 0},
		{math.MinInt, 0},
		{api.MaxStep + 1, 0},
		{math.MaxInt, 0},
	} {
		if mask := flips.Mask(l, x.at); mask != x.want {
			t.Errorf("Mask at %d is %#x, not %#x", x.at, mask, x.want)
		}
		if mask := flips.Mask(nil, x.at); mask != 0 {
			t.Errorf("Mask of no flips at %d is %#x", x.at, mask)
		}
	}
}

func TestMaskOfAllNodes(t *testing.T) {
	for node := range uint8(32) {
		l := []api.Flip{at(6, node), at(7, node), at(8, node)}
		if mask := flips.Mask(l, 7); mask != 1<<node {
			t.Errorf("Mask of node %d is %#x", node, mask)
		}
	}
	var l []api.Flip
	for node := range uint8(32) {
		l = append(l, at(7, node))
	}
	if mask := flips.Mask(l, 7); mask != math.MaxUint32 {
		t.Errorf("Mask of all nodes is %#x", mask)
	}
}

// nodesAt are the nodes with a flip in l at a step, as bits.
func nodesAt(l []api.Flip, step int) uint32 {
	mask := uint32(0)
	for node := range uint8(32) {
		if slices.Contains(l, at(step, node)) {
			mask += 1 << node
		}
	}
	return mask
}

func TestMaskOfManyLists(t *testing.T) {
	for _, first := range []int{0, 100, api.MaxStep - 3} {
		for l := range parts(grid(first, 4, 0, 5, 31)) {
			for step := first - 2; step < first+6; step++ {
				if mask, want := flips.Mask(l, step), nodesAt(l, step); mask != want {
					t.Fatalf("Mask(%v, %d) is %#x, not %#x", l, step, mask, want)
				}
			}
		}
	}
	l := grid(5, 2000, 0, 8, 31)
	for step := range 2100 {
		want := uint32(0)
		if step >= 5 && step < 2005 {
			want = 1<<31 | 1<<8 | 1
		}
		if mask := flips.Mask(l, step); mask != want {
			t.Fatalf("Mask at %d is %#x, not %#x", step, mask, want)
		}
	}
}

func TestWithout(t *testing.T) {
	l := []api.Flip{at(0, 31), at(3, 0), at(5, 0), at(5, 1), at(5, 31), at(api.MaxStep, 0)}
	for _, x := range []struct {
		node uint8
		want []api.Flip
	}{
		{0, []api.Flip{at(0, 31), at(5, 1), at(5, 31)}},
		{1, []api.Flip{at(0, 31), at(3, 0), at(5, 0), at(5, 31), at(api.MaxStep, 0)}},
		{31, []api.Flip{at(3, 0), at(5, 0), at(5, 1), at(api.MaxStep, 0)}},
		// Nodes that have none, and what is no node.
		{2, l},
		{30, l},
		{32, l},
		{33, l},
		{63, l},
		{255, l},
	} {
		if got := flips.Without(l, x.node); !slices.Equal(got, x.want) {
			t.Errorf("Without node %d is %v", x.node, got)
		}
		if got := flips.Without(nil, x.node); len(got) != 0 {
			t.Errorf("Without node %d of no flips is %v", x.node, got)
		}
	}
	for node := range uint8(32) {
		if got := flips.Without(grid(5, 3, node), node); len(got) != 0 {
			t.Errorf("Without node %d is %v", node, got)
		}
	}
}

func TestWithoutOfManyLists(t *testing.T) {
	nodes := []uint8{0, 7, 31}
	for l := range parts(grid(2, 4, nodes...)) {
		for _, node := range append(nodes, 1, 39, 255) {
			got := flips.Without(l, node)
			if !flips.Right(got) {
				t.Fatalf("%v, without node %d of %v, is not right", got, node, l)
			}
			for step := range 8 {
				want := nodesAt(l, step) &^ (1 << node)
				if mask := flips.Mask(got, step); mask != want {
					t.Fatalf("at %d the mask without node %d of %v is %#x, not %#x", step, node, l, mask, want)
				}
			}
		}
	}
}

func TestMost(t *testing.T) {
	l := []api.Flip{at(0, 0), at(9, 3), at(9, 31), at(10, 0), at(14, 0), at(api.MaxStep-1, 2), at(api.MaxStep, 1)}
	for _, x := range []struct{ width, want int }{
		{1, 2},
		{2, 3},
		{5, 3},
		{6, 4},
		{14, 4},
		{15, 5},
		{16, 5},
		{api.MaxStep - 9, 5},
		{api.MaxStep - 8, 6},
		{api.MaxStep - 1, 6},
		{api.MaxStep, 6},
		{api.MaxStep + 1, 7},
		{api.MaxStep + 2, 7},
		{math.MaxInt, 7},
		// No window.
		{0, 0},
		{-1, 0},
		{-api.MaxStep, 0},
		{math.MinInt, 0},
	} {
		if n := flips.Most(l, x.width); n != x.want {
			t.Errorf("Most(%v, %d) is %d, not %d", l, x.width, n, x.want)
		}
		if n := flips.Most(nil, x.width); n != 0 {
			t.Errorf("Most of no flips for the width %d is %d", x.width, n)
		}
	}
}

// The windows with the most flips are the first one, the last one, and one between.
func TestMostAtTheEnds(t *testing.T) {
	for _, x := range []struct {
		l    []api.Flip
		want int
	}{
		{[]api.Flip{at(0, 0), at(1, 0), at(2, 0), at(9, 0), at(12, 0), at(20, 0)}, 3},
		{[]api.Flip{at(0, 0), at(9, 0), at(12, 0), at(20, 0), at(21, 0), at(22, 0)}, 3},
		{[]api.Flip{at(0, 0), at(9, 0), at(10, 0), at(11, 0), at(20, 0)}, 3},
		{[]api.Flip{at(0, 0), at(0, 1), at(0, 2), at(0, 3), at(9, 0), at(9, 1)}, 4},
		{[]api.Flip{at(0, 0), at(0, 1), at(9, 0), at(9, 1), at(9, 2), at(9, 3)}, 4},
		{[]api.Flip{at(api.MaxStep-9, 0), at(api.MaxStep-2, 0), at(api.MaxStep-1, 0), at(api.MaxStep, 0)}, 3},
		{[]api.Flip{at(0, 0), at(3, 0), at(6, 0)}, 1},
		{[]api.Flip{at(0, 0), at(2, 0), at(4, 0), at(6, 0)}, 2},
	} {
		if n := flips.Most(x.l, 3); n != x.want {
			t.Errorf("Most(%v, 3) is %d, not %d", x.l, n, x.want)
		}
	}
}

// inWindows is the greatest number of flips of l in a window of width steps that
// starts at one of many steps from first on.
func inWindows(l []api.Flip, width, first, many int) int {
	most := 0
	for start := first; start < first+many; start++ {
		n := 0
		for _, f := range l {
			if f.At >= start && f.At < start+width {
				n++
			}
		}
		most = max(most, n)
	}
	return most
}

func TestMostOfManyLists(t *testing.T) {
	for _, first := range []int{0, api.MaxStep - 11} {
		for l := range parts(grid(first, 12, 3)) {
			for width := range 14 {
				if n, want := flips.Most(l, width), inWindows(l, width, first-14, 27); n != want {
					t.Fatalf("Most(%v, %d) is %d, not %d", l, width, n, want)
				}
			}
		}
	}
	for l := range parts(grid(7, 5, 0, 31)) {
		for width := range 7 {
			if n, want := flips.Most(l, width), inWindows(l, width, 0, 14); n != want {
				t.Fatalf("Most(%v, %d) is %d, not %d", l, width, n, want)
			}
		}
	}
}

// P5.3

func TestTurn(t *testing.T) {
	for node := range uint8(32) {
		own := uint32(1) << node
		for _, bit := range []bool{true, false} {
			for _, mask := range []uint32{own, math.MaxUint32, own | 1, own | 1<<31} {
				if flips.Turn(bit, mask, node) != !bit {
					t.Errorf("Turn(%v, %#x, %d) is %v", bit, mask, node, bit)
				}
			}
			for _, mask := range []uint32{0, ^own, own << 1, own >> 1} {
				if flips.Turn(bit, mask, node) != bit {
					t.Errorf("Turn(%v, %#x, %d) is %v", bit, mask, node, !bit)
				}
			}
		}
	}
}

func TestTurnOfWhatAreNoNodes(t *testing.T) {
	for node := 32; node < 256; node++ {
		for _, mask := range []uint32{0, 1, 1 << 31, 0x5555_5555, 0xaaaa_aaaa, math.MaxUint32} {
			for _, bit := range []bool{true, false} {
				if flips.Turn(bit, mask, uint8(node)) != bit {
					t.Errorf("Turn(%v, %#x, %d) is %v", bit, mask, node, !bit)
				}
			}
		}
	}
}

// P5.4

func TestTwoListsOneAfterTheOther(t *testing.T) {
	for a := range parts(grid(1, 3, 0, 31)) {
		for b := range parts(grid(2, 3, 0, 31)) {
			both := made(t, slices.Concat(a, b))
			for step := range 7 {
				want := flips.Mask(a, step) ^ flips.Mask(b, step)
				if mask := flips.Mask(both, step); mask != want {
					t.Fatalf("of %v and %v the mask at %d is %#x, not %#x", a, b, step, mask, want)
				}
			}
		}
	}
}

func TestTwoLongListsOneAfterTheOther(t *testing.T) {
	for many := range 60 {
		a, b := made(t, mixed(10*many)), made(t, mixed(1000 - 7*many)[many:])
		both := made(t, slices.Concat(a, b))
		for step := range 64 {
			want := flips.Mask(a, step) ^ flips.Mask(b, step)
			if mask := flips.Mask(both, step); mask != want {
				t.Fatalf("round %d: the mask at %d is %#x, not %#x", many, step, mask, want)
			}
		}
	}
}

// Twice the same list is none, and a list and none is that list.
func TestAListTwice(t *testing.T) {
	for l := range parts(grid(0, 5, 0, 31)) {
		if got := made(t, slices.Concat(l, l)); len(got) != 0 {
			t.Fatalf("Make of twice %v is %v", l, got)
		}
		if got := made(t, slices.Concat(l, l, l)); !slices.Equal(got, l) {
			t.Fatalf("Make of three times %v is %v", l, got)
		}
	}
}

func TestWidths(t *testing.T) {
	for _, all := range [][]api.Flip{grid(0, 10, 3), grid(0, 5, 0, 31), {at(0, 0), at(0, 1), at(1, 0), at(5, 0), at(9, 0), at(12, 0), at(13, 0), at(13, 31), at(14, 0)}} {
		for l := range parts(all) {
			for width := range 17 {
				if flips.Most(l, width+1) < flips.Most(l, width) {
					t.Fatalf("Most(%v, %d) is above that for the next width", l, width)
				}
				for other := range 17 - width {
					both, one, two := flips.Most(l, width+other), flips.Most(l, width), flips.Most(l, other)
					if both > one+two {
						t.Fatalf("Most of %v for the widths %d, %d and both is %d, %d, %d", l, width, other, one, two, both)
					}
				}
			}
		}
	}
}

// The chapter's examples.
func TestExamples(t *testing.T) {
	l, e := flips.Make([]api.Flip{at(5, 1), at(3, 0), at(5, 0), at(5, 1)})
	if !slices.Equal(l, []api.Flip{at(3, 0), at(5, 0)}) || e != api.OK {
		t.Fatalf("Make is %v, error %d", l, e)
	}
	if five, four := flips.Mask(l, 5), flips.Mask(l, 4); five != 1 || four != 0 {
		t.Errorf("Mask at 5 is %#x, at 4 %#x", five, four)
	}
	if two, three := flips.Most(l, 2), flips.Most(l, 3); two != 1 || three != 2 {
		t.Errorf("Most for the width 2 is %d, for 3 %d", two, three)
	}
	if flips.Turn(true, 1, 0) || !flips.Turn(true, 1, 1) {
		t.Error("Turn is another bit")
	}
	if l, e := flips.Make([]api.Flip{at(5, 32)}); l != nil || e != api.ErrArg {
		t.Errorf("Make of a flip of node 32 is %v, error %d", l, e)
	}
}
