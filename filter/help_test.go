package filter_test

import (
	"iter"
	"math/rand"
	"slices"
	"testing"

	"jackstay/api"
	"jackstay/filter"
)

// base is a filter of base frames, ext one of extended ones.
func base(mask, match uint32) api.Filter { return api.Filter{Mask: mask, Match: match} }

func extended(mask, match uint32) api.Filter { return api.Filter{Ext: true, Mask: mask, Match: match} }

// wide is how many bits the identifiers of a kind have.
func wide(ext bool) int {
	if ext {
		return 29
	}
	return 11
}

// one tells a bit of a number.
func one(n uint32, bit int) bool { return n/(1<<bit)%2 == 1 }

// right is a second telling of what a right filter is, bit by bit.
func right(x api.Filter) bool {
	for bit := range 32 {
		mask, match := one(x.Mask, bit), one(x.Match, bit)
		if match && !mask || mask && bit >= wide(x.Ext) {
			return false
		}
	}
	return true
}

// lets is a second telling of what a filter accepts, bit by bit.
func lets(x api.Filter, f api.Frame) bool {
	for bit := range 32 {
		if one(x.Mask, bit) && one(x.Match, bit) != one(f.ID, bit) {
			return false
		}
	}
	return right(x) && x.Ext == f.Ext
}

// firstOf is a second telling of First: -1 if none is.
func firstOf(l []api.Filter, f api.Frame) int {
	for i, x := range l {
		if lets(x, f) {
			return i
		}
	}
	return -1
}

// hold holds First and Pass to their second telling.
func hold(t *testing.T, l []api.Filter, f api.Frame) {
	t.Helper()
	want := firstOf(l, f)
	if i, ok := filter.First(l, f); ok != (want >= 0) || i != max(want, 0) {
		t.Fatalf("First(%v, %v) is %d, %v, not %d", l, f, i, ok, want)
	}
	if ok := filter.Pass(l, f); ok != (want >= 0 || len(l) == 0) {
		t.Fatalf("Pass(%v, %v) is %v", l, f, ok)
	}
}

// kinds yields whether a frame, or a filter, is extended.
func kinds() iter.Seq[bool] { return slices.Values([]bool{false, true}) }

// small yields all filters whose masks and matches have ones in those bits alone,
// right ones and wrong ones.
func small(bits ...int) iter.Seq[api.Filter] {
	return func(yield func(api.Filter) bool) {
		for ext := range kinds() {
			for _, mask := range sums(bits) {
				for _, match := range sums(bits) {
					if !yield(api.Filter{Ext: ext, Mask: mask, Match: match}) {
						return
					}
				}
			}
		}
	}
}

// sums are all numbers whose ones are in those bits.
func sums(bits []int) []uint32 {
	l := []uint32{0}
	for _, bit := range bits {
		for _, n := range l {
			l = append(l, n|1<<bit)
		}
	}
	return l
}

// someFilter is a filter of either kind; its mask has few ones, or few zeros, and it is
// right, mostly.
func someFilter(r *rand.Rand) api.Filter {
	x := api.Filter{Ext: r.Intn(2) == 0}
	all := uint32(1)<<wide(x.Ext) - 1
	for range r.Intn(4) {
		x.Mask |= 1 << r.Intn(wide(x.Ext))
	}
	if r.Intn(3) == 0 {
		x.Mask ^= all
	}
	x.Match = r.Uint32() & x.Mask
	if r.Intn(8) == 0 {
		x.Match ^= 1 << r.Intn(32)
	}
	return x
}

// someFrame is a frame of either kind; it matches one of l, often.
func someFrame(r *rand.Rand, l []api.Filter) api.Frame {
	f := api.Frame{Ext: r.Intn(2) == 0, Remote: r.Intn(2) == 0}
	f.ID = r.Uint32() & (1<<wide(f.Ext) - 1)
	if len(l) > 0 && r.Intn(2) == 0 {
		x := l[r.Intn(len(l))]
		f.Ext = x.Ext
		f.ID = r.Uint32()&(1<<wide(x.Ext)-1)&^x.Mask | x.Match
	}
	return f
}

// someList are at most many filters.
func someList(r *rand.Rand, many int) []api.Filter {
	var l []api.Filter
	for range r.Intn(many + 1) {
		l = append(l, someFilter(r))
	}
	return l
}

// only calls Only with identifiers that may be.
func only(t *testing.T, ids []uint32, ext bool) []api.Filter {
	t.Helper()
	l, e := filter.Only(ids, ext)
	if e != api.OK {
		t.Fatalf("Only of %d identifiers is error %d", len(ids), e)
	}
	return l
}

// matches are what filters look for; the filters are of that kind, and their masks are
// ones.
func matches(t *testing.T, l []api.Filter, ext bool) []uint32 {
	t.Helper()
	var ids []uint32
	for _, x := range l {
		if x.Ext != ext || x.Mask != 1<<wide(ext)-1 {
			t.Fatalf("a filter is %v", x)
		}
		ids = append(ids, x.Match)
	}
	return ids
}

// upTo are the identifiers from a first one on.
func upTo(first uint32, many int) []uint32 {
	var l []uint32
	for i := range many {
		l = append(l, first+uint32(i))
	}
	return l
}
