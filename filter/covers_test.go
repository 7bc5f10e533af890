package filter_test

import (
	"math/rand"
	"slices"
	"testing"

	"jackstay/api"
	"jackstay/filter"
	"jackstay/samples"
)

// P11.2

func TestCovers(t *testing.T) {
	for _, x := range []struct {
		a, b api.Filter
		want bool
	}{
		{base(0, 0), base(1792, 256), true},
		{base(1792, 256), base(0, 0), false},
		{base(1792, 256), base(1792, 256), true},
		{base(1792, 256), base(1793, 256), true},
		{base(1792, 256), base(1793, 257), true},
		{base(1793, 256), base(1792, 256), false},
		{base(1792, 256), base(1792, 512), false},
		{base(1792, 256), base(1793, 513), false},
		{base(1792, 256), base(api.MaxBase, 511), true},
		{base(1792, 256), base(api.MaxBase, 512), false},
		{base(1792, 256), base(api.MaxBase, 255), false},
		// What they have in common is not enough.
		{base(1, 1), base(2, 2), false},
		{base(1, 1), base(3, 3), true},
		{base(1, 1), base(3, 2), false},
		{base(1, 0), base(3, 2), true},
		// Those of all identifiers, and those of a single one.
		{base(0, 0), base(0, 0), true},
		{base(0, 0), base(api.MaxBase, api.MaxBase), true},
		{base(api.MaxBase, 5), base(api.MaxBase, 5), true},
		{base(api.MaxBase, 5), base(api.MaxBase, 4), false},
		{extended(0, 0), extended(api.MaxExt, api.MaxExt), true},
		{extended(1<<28, 1<<28), extended(api.MaxExt, 1<<28), true},
		{extended(1<<28, 1<<28), extended(api.MaxExt, 1), false},
		{extended(api.MaxExt, api.MaxExt), extended(api.MaxExt, api.MaxExt), true},
		{extended(api.MaxExt, api.MaxExt), extended(1<<28, 1<<28), false},
		// The kinds have no frame in common.
		{base(0, 0), extended(0, 0), false},
		{extended(0, 0), base(0, 0), false},
		{base(7, 1), extended(7, 1), false},
		{extended(7, 1), base(7, 1), false},
		{extended(0, 0), base(api.MaxBase, 5), false},
	} {
		if filter.Covers(x.a, x.b) != x.want {
			t.Errorf("Covers(%v, %v) is %v", x.a, x.b, !x.want)
		}
	}
}

// A filter that is not right covers none, and none covers it.
func TestCoversOfWrongFilters(t *testing.T) {
	some := []api.Filter{base(0, 0), base(7, 1), base(api.MaxBase, 5), extended(0, 0), extended(7, 1), extended(api.MaxExt, 5)}
	for _, x := range samples.WrongFilters() {
		for _, y := range append(slices.Clone(some), samples.WrongFilters()...) {
			if filter.Covers(x, y) || filter.Covers(y, x) {
				t.Errorf("of %v and %v one covers the other one", x, y)
			}
		}
	}
}

// All pairs of small filters, wrong ones too, held to what they accept of all frames
// that they tell apart.
func TestCoversOfAllPairs(t *testing.T) {
	for _, bits := range [][]int{{0, 1, 2}, {9, 10, 11}, {0, 10, 28}} {
		ids := sums(bits)
		for a := range small(bits...) {
			for b := range small(bits...) {
				want := right(a) && right(b)
				for _, id := range ids {
					// No more bits than the frames of the kind have.
					f := api.Frame{ID: id % (1 << wide(b.Ext)), Ext: b.Ext}
					want = want && (lets(a, f) || !lets(b, f))
				}
				if filter.Covers(a, b) != want {
					t.Fatalf("Covers(%v, %v) is %v", a, b, !want)
				}
			}
		}
	}
}

// Of longer masks: what covers looks at no more bits, and for the same.
func TestCoversOfMany(t *testing.T) {
	r := rand.New(rand.NewSource(112))
	for range 3000 {
		b := someFilter(r)
		a := api.Filter{Ext: b.Ext, Mask: b.Mask & r.Uint32()}
		a.Match = b.Match & a.Mask
		if ok := right(b); filter.Covers(a, b) != ok {
			t.Fatalf("Covers(%v, %v) is %v", a, b, !ok)
		}
		for bit := range wide(b.Ext) {
			other := a
			if other.Mask |= 1 << bit; one(b.Mask, bit) {
				// It looks for the other bit there.
				other.Match = a.Match&^(1<<bit) | ^b.Match&(1<<bit)
			}
			if filter.Covers(other, b) {
				t.Fatalf("%v covers %v", other, b)
			}
		}
	}
}

// What a covering filter is asked: it accepts all frames of the other one.
func TestCoversHoldsForFrames(t *testing.T) {
	r := rand.New(rand.NewSource(113))
	covered := 0
	for range 30000 {
		a, b := someFilter(r), someFilter(r)
		if !filter.Covers(a, b) {
			continue
		}
		covered++
		for range 50 {
			f := someFrame(r, []api.Filter{b})
			if filter.Pass([]api.Filter{b}, f) && !filter.Pass([]api.Filter{a}, f) {
				t.Fatalf("%v covers %v, and does not accept %v", a, b, f)
			}
		}
	}
	if covered < 500 {
		t.Errorf("only %d pairs cover each other", covered)
	}
}

// P11.4

// Covers is transitive; each right filter covers itself, and two that cover each other
// are one.
func TestCoversIsTransitive(t *testing.T) {
	all := slices.Collect(small(0, 10, 11))
	for _, a := range all {
		if filter.Covers(a, a) != right(a) {
			t.Errorf("that %v covers itself is %v", a, !right(a))
		}
		for _, b := range all {
			if !filter.Covers(a, b) {
				continue
			}
			if a != b && filter.Covers(b, a) {
				t.Errorf("%v and %v cover each other", a, b)
			}
			for _, c := range all {
				if filter.Covers(b, c) && !filter.Covers(a, c) {
					t.Fatalf("%v covers %v, which covers %v, which it does not cover", a, b, c)
				}
			}
		}
	}
}
