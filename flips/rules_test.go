package flips_test

import (
	"math"
	"slices"
	"testing"

	"jackstay/api"
	"jackstay/flips"
	"jackstay/rows"
)

// The rules that hold everywhere, R1 to R7, as far as they touch this layer. It has
// no objects (R5), and no texts.

// R1, R2: every list has a result, also one that is not right; beside an error there
// is no list.
func TestEveryListHasAResult(t *testing.T) {
	var of []api.Flip
	for _, step := range []int{math.MinInt, -1, 0, 5, api.MaxStep + 1, math.MaxInt} {
		for _, node := range []uint8{0, 31, 32, 255} {
			of = append(of, at(step, node))
		}
	}
	for l := range rows.Lists(of, 3) {
		if got, e := flips.Make(l); e != api.OK && got != nil || e == api.OK && !flips.Right(got) {
			t.Fatalf("Make(%v) is %v, error %d", l, got, e)
		}
		if flips.Right(l) && !slices.Equal(made(t, l), l) {
			t.Fatalf("%v is right", l)
		}
		for _, n := range []int{math.MinInt, -1, 0, 1, 2, 5, api.MaxStep, math.MaxInt} {
			flips.Mask(l, n)
			flips.Most(l, n)
		}
		flips.Without(l, 0)
		flips.Without(l, 255)
	}
}

// R1: lists with as many flips as may be, and with more, are as good as short ones.
func TestLongLists(t *testing.T) {
	l := grid(0, api.MaxFlips, 6)
	if !flips.Right(l) {
		t.Fatal("a list with as many flips as may be is not right")
	}
	back := slices.Clone(l)
	slices.Reverse(back)
	if got := made(t, back); !slices.Equal(got, l) {
		t.Errorf("the other way round Make is %d flips", len(got))
	}
	for step := range api.MaxFlips {
		if mask := flips.Mask(l, step); mask != 1<<6 {
			t.Fatalf("Mask at %d is %#x", step, mask)
		}
	}
	for _, width := range []int{1, 2, 1000, api.MaxFlips - 1, api.MaxFlips} {
		if n := flips.Most(l, width); n != width {
			t.Errorf("Most for the width %d is %d", width, n)
		}
	}
	if n := flips.Most(l, api.MaxFlips+1); n != api.MaxFlips {
		t.Errorf("Most for a width above is %d", n)
	}
	if n := len(flips.Without(l, 6)); n != 0 {
		t.Errorf("Without its node it has %d flips", n)
	}
	same := slices.Repeat([]api.Flip{at(4, 4)}, 1<<20+1)
	if got := made(t, same); !slices.Equal(got, same[:1]) {
		t.Errorf("Make of one flip many times is %v", got)
	}
}

// R2: the calls after an error are as if it had not been.
func TestErrorsChangeNothing(t *testing.T) {
	l := []api.Flip{at(5, 1), at(3, 0), at(5, 0), at(5, 1)}
	over := grid(0, api.MaxFlips+1, 0)
	for round := range 3 {
		if _, e := flips.Make(append(slices.Clone(l), at(0, 32))); e != api.ErrArg {
			t.Errorf("round %d: error %d", round, e)
		}
		if _, e := flips.Make(over); e != api.ErrFull {
			t.Errorf("round %d: error %d", round, e)
		}
		if got := made(t, l); !slices.Equal(got, []api.Flip{at(3, 0), at(5, 0)}) {
			t.Errorf("round %d: Make is %v", round, got)
		}
	}
}

// R3: the flips of an argument, and those behind its end, stay as they are: sorted or
// not, with duplicates, and beside errors.
func TestFlipsStayAsTheyAre(t *testing.T) {
	for _, whole := range [][]api.Flip{
		grid(0, 6, 0, 5, 31),
		mixed(40),
		slices.Repeat([]api.Flip{at(3, 1), at(2, 1)}, 6),
		append(mixed(20), at(-1, 0), at(2, 2), at(0, 40), at(1, 1)),
	} {
		before := slices.Clone(whole)
		for long := range len(whole) + 1 {
			l := whole[:long]
			flips.Right(l)
			flips.Make(l)
			flips.Mask(l, 3)
			flips.Most(l, 3)
			flips.Without(l, 5)
			if !slices.Equal(whole, before) {
				t.Fatalf("%d flips have become %v", long, whole)
			}
		}
	}
	over := grid(0, api.MaxFlips+1, 0)
	slices.Reverse(over)
	before := slices.Clone(over)
	flips.Make(over)
	if !slices.Equal(over, before) {
		t.Error("too many flips have changed")
	}
}

// R3: a result shares no memory with an argument or with another result, in its spare
// capacity neither, also if it is the argument's flips.
func TestResultsAreNew(t *testing.T) {
	for name, call := range map[string]func([]api.Flip) []api.Flip{
		"Make":    func(l []api.Flip) []api.Flip { return made(t, l) },
		"Without": func(l []api.Flip) []api.Flip { return flips.Without(l, 31) },
	} {
		for _, l := range [][]api.Flip{grid(1, 9, 3), grid(1, 9, 3, 31), grid(1, 1, 0)} {
			kept := slices.Clone(l)
			one, other := call(l), call(l)
			want := slices.Clone(other)
			clear(one[:cap(one)])
			if !slices.Equal(l, kept) || !slices.Equal(other, want) {
				t.Fatalf("a result of %s shares memory", name)
			}
			clear(l)
			if !slices.Equal(other, want) {
				t.Fatalf("a result of %s shares memory with its argument", name)
			}
		}
	}
}

// R4: a call's results hang on its arguments alone, not on the calls before it.
func TestResultsHangOnArgumentsAlone(t *testing.T) {
	l := []api.Flip{at(3, 0), at(5, 0)}
	for round := range 3 {
		made(t, mixed(50))
		flips.Mask(mixed(20), 5)
		if got := made(t, []api.Flip{l[1], l[0]}); !slices.Equal(got, l) {
			t.Errorf("round %d: Make is %v", round, got)
		}
		if mask := flips.Mask(l, 5); mask != 1 {
			t.Errorf("round %d: Mask is %#x", round, mask)
		}
		if n := flips.Most(l, 3); n != 2 {
			t.Errorf("round %d: Most is %d", round, n)
		}
		if flips.Turn(true, 1, 0) || !flips.Right(l) {
			t.Errorf("round %d: Turn or Right is another one", round)
		}
	}
}

// R4: nor on a capacity.
func TestCapacityDoesNotMatter(t *testing.T) {
	whole := []api.Flip{at(3, 0), at(5, 0), at(5, 0), at(5, 1), at(6, 1)}
	for _, l := range [][]api.Flip{whole[:2], whole[:2:2]} {
		if got := made(t, l); !flips.Right(l) || !slices.Equal(got, whole[:2]) {
			t.Errorf("with the capacity %d Make is %v", cap(l), got)
		}
		if mask := flips.Mask(l, 5); mask != 1 {
			t.Errorf("with the capacity %d Mask is %#x", cap(l), mask)
		}
		if n := flips.Most(l, 9); n != 2 {
			t.Errorf("with the capacity %d Most is %d", cap(l), n)
		}
		if got := flips.Without(l, 7); !slices.Equal(got, whole[:2]) {
			t.Errorf("with the capacity %d Without is %v", cap(l), got)
		}
	}
}

// R6: an empty list is as good as nil.
func TestEmptyIsNil(t *testing.T) {
	for _, l := range [][]api.Flip{nil, {}, make([]api.Flip, 0, 8), grid(0, 3, 0)[:0]} {
		if got, e := flips.Make(l); !flips.Right(l) || len(got) != 0 || e != api.OK {
			t.Errorf("Make of no flips, nil %v, is %v, error %d", l == nil, got, e)
		}
		if flips.Mask(l, 0) != 0 || flips.Most(l, 1) != 0 || len(flips.Without(l, 0)) != 0 {
			t.Errorf("no flips, nil %v, have a mask, a window or flips", l == nil)
		}
	}
}

// R7: steps and widths that are negative, or beyond the end, and nodes that are none,
// are wrong for Make alone: the chapter has an answer for them elsewhere.
func TestNumbersBeyondTheEnds(t *testing.T) {
	l := []api.Flip{at(0, 0), at(0, 31), at(api.MaxStep, 0), at(api.MaxStep, 31)}
	for _, wrong := range wrongFlips() {
		if got, e := flips.Make(append(slices.Clone(l), wrong)); got != nil || e != api.ErrArg {
			t.Errorf("with %v Make is %v, error %d", wrong, got, e)
		}
		if wrong.At < 0 || wrong.At > api.MaxStep {
			if mask := flips.Mask(l, wrong.At); mask != 0 {
				t.Errorf("Mask at %d is %#x", wrong.At, mask)
			}
		}
		if wrong.At < 1 {
			if n := flips.Most(l, wrong.At); n != 0 {
				t.Errorf("Most for the width %d is %d", wrong.At, n)
			}
		}
		if wrong.Node > 31 {
			if !flips.Turn(true, math.MaxUint32, wrong.Node) || flips.Turn(false, math.MaxUint32, wrong.Node) {
				t.Errorf("a bit is turned for node %d", wrong.Node)
			}
			if got := flips.Without(l, wrong.Node); !slices.Equal(got, l) {
				t.Errorf("Without node %d is %v", wrong.Node, got)
			}
		}
	}
}
