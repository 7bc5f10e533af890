package filter_test

import (
	"math"
	"math/rand"
	"slices"
	"testing"

	"jackstay/api"
	"jackstay/filter"
	"jackstay/rows"
)

// P11.3

func TestOnly(t *testing.T) {
	for _, x := range []struct{ ids, want []uint32 }{
		{nil, nil},
		{[]uint32{0}, []uint32{0}},
		{[]uint32{5, 3, 5}, []uint32{3, 5}},
		{[]uint32{3, 5}, []uint32{3, 5}},
		{[]uint32{5, 3}, []uint32{3, 5}},
		{[]uint32{5, 5, 5}, []uint32{5}},
		{[]uint32{0, 0}, []uint32{0}},
		{[]uint32{api.MaxBase}, []uint32{api.MaxBase}},
		{[]uint32{api.MaxBase, 0, api.MaxBase}, []uint32{0, api.MaxBase}},
		{[]uint32{10, 9, 100, 2, 9, 1000, 2}, []uint32{2, 9, 10, 100, 1000}},
		{[]uint32{4, 3, 2, 1, 0, 1, 2, 3, 4}, []uint32{0, 1, 2, 3, 4}},
	} {
		for ext := range kinds() {
			if got := matches(t, only(t, x.ids, ext), ext); !slices.Equal(got, x.want) {
				t.Errorf("Only(%v, %v) accepts %v", x.ids, ext, got)
			}
		}
	}
	big := []uint32{api.MaxExt, api.MaxBase + 1, 1 << 28, api.MaxBase, api.MaxExt}
	if got := matches(t, only(t, big, true), true); !slices.Equal(got, []uint32{api.MaxBase, api.MaxBase + 1, 1 << 28, api.MaxExt}) {
		t.Errorf("Only(%v) accepts %v", big, got)
	}
}

// The filters as they are, each field of them.
func TestFiltersOfOnly(t *testing.T) {
	if l := only(t, []uint32{5, 3, 5}, false); !slices.Equal(l, []api.Filter{base(2047, 3), base(2047, 5)}) {
		t.Errorf("the base filters are %v", l)
	}
	if l := only(t, []uint32{5, 3, 5}, true); !slices.Equal(l, []api.Filter{extended(536870911, 3), extended(536870911, 5)}) {
		t.Errorf("the extended filters are %v", l)
	}
}

// All short lists of identifiers, some of which are too great.
func TestOnlyOfAllShortLists(t *testing.T) {
	of := []uint32{0, 5, api.MaxBase, api.MaxBase + 1, api.MaxExt, api.MaxExt + 1}
	for ids := range rows.Lists(of, 5) {
		for ext := range kinds() {
			var want []uint32
			wrong := false
			for _, id := range of {
				if slices.Contains(ids, id) {
					want = append(want, id)
					wrong = wrong || id >= 1<<wide(ext)
				}
			}
			l, e := filter.Only(ids, ext)
			if wrong && (l != nil || e != api.ErrArg) {
				t.Fatalf("Only(%v, %v) is %v, error %d", ids, ext, l, e)
			}
			if !wrong && (e != api.OK || !slices.Equal(matches(t, l, ext), want)) {
				t.Fatalf("Only(%v, %v) is %v, error %d", ids, ext, l, e)
			}
		}
	}
}

// They accept these identifiers, of that kind, and nothing else.
func TestOnlyAcceptsThese(t *testing.T) {
	ids := []uint32{0, 2047, 77, 5, 1024, 77, 1, 1000, 5}
	for ext := range kinds() {
		l := only(t, ids, ext)
		for id := range uint32(1 << 13) {
			f := api.Frame{ID: id, Ext: ext}
			if want := slices.Contains(ids, id); id < 1<<wide(ext) && filter.Pass(l, f) != want {
				t.Errorf("that %v passes is %v", f, !want)
			}
			f.Ext = !ext
			if id < 1<<wide(!ext) && filter.Pass(l, f) {
				t.Errorf("%v passes", f)
			}
		}
		for i, x := range l {
			if !filter.Right(x) {
				t.Errorf("%v is not right", x)
			}
			if j, ok := filter.First(l, api.Frame{ID: x.Match, Ext: ext}); j != i || !ok {
				t.Errorf("First of %d is %d, %v", x.Match, j, ok)
			}
		}
	}
	// For none it is the other way round.
	for ext := range kinds() {
		if l := only(t, nil, ext); len(l) != 0 || !filter.Pass(l, api.Frame{ID: 5, Ext: ext}) || !filter.Pass(l, api.Frame{ID: 5, Ext: !ext}) {
			t.Errorf("for no identifiers it is %v", l)
		}
	}
}

func TestOnlyOfTooGreatOnes(t *testing.T) {
	for _, x := range []struct {
		ext   bool
		great []uint32
	}{
		{false, []uint32{2048, 2049, 4095, 1 << 28, api.MaxExt, api.MaxExt + 1, 1 << 31, math.MaxUint32}},
		{true, []uint32{1 << 29, 1<<29 + 1, 1<<30 - 1, 1 << 31, math.MaxUint32}},
	} {
		for _, id := range x.great {
			for _, many := range []int{0, 1, 5, 63, 64, 65, 200} {
				l := upTo(3, many)
				for _, place := range []int{0, many / 2, many} {
					other := slices.Insert(slices.Clone(l), place, id)
					if got, e := filter.Only(other, x.ext); got != nil || e != api.ErrArg {
						t.Errorf("with %d at %d among %d others Only is %v, error %d", id, place, many, got, e)
					}
					// Also if it is there twice.
					if got, e := filter.Only(append(other, id), x.ext); got != nil || e != api.ErrArg {
						t.Errorf("with %d twice among %d others Only is %v, error %d", id, many, got, e)
					}
				}
			}
		}
	}
	// The greatest one of the other kind is none of them, the greatest of its own is.
	if got, e := filter.Only([]uint32{api.MaxExt}, false); got != nil || e != api.ErrArg {
		t.Errorf("of the greatest extended one Only is %v, error %d", got, e)
	}
	if got := only(t, []uint32{api.MaxExt}, true); len(got) != 1 {
		t.Errorf("of the greatest extended one Only is %v", got)
	}
}

// As many different ones as may be, and one more: it is those that differ that count.
func TestMaxFilters(t *testing.T) {
	r := rand.New(rand.NewSource(64))
	for ext := range kinds() {
		top := uint32(1)<<wide(ext) - 1
		for _, first := range []uint32{0, 100, top - 64, top - 63} {
			for _, many := range []int{1, 63, 64, 65, 66, 128, 1000} {
				if int(top-first) < many-1 {
					continue
				}
				ids := upTo(first, many)
				for _, l := range [][]uint32{ids, slices.Repeat(ids, 3)} {
					r.Shuffle(len(l), func(i, j int) { l[i], l[j] = l[j], l[i] })
					got, e := filter.Only(l, ext)
					if many > 64 && (got != nil || e != api.ErrFull) {
						t.Errorf("of %d from %d on Only is %d filters, error %d", many, first, len(got), e)
					}
					if many <= 64 && (e != api.OK || !slices.Equal(matches(t, got, ext), upTo(first, many))) {
						t.Errorf("of %d from %d on Only is %v, error %d", many, first, got, e)
					}
				}
			}
		}
	}
}

// The one that is too much is any of them.
func TestOneTooMany(t *testing.T) {
	ids := upTo(7, 65)
	for i := range ids {
		l := slices.Delete(slices.Clone(ids), i, i+1)
		if got := matches(t, only(t, l, false), false); !slices.Equal(got, l) {
			t.Errorf("without %d they are %v", ids[i], got)
		}
		if got, e := filter.Only(append(slices.Clone(l), l[i%64]), false); len(got) != 64 || e != api.OK {
			t.Errorf("with %d twice Only is %d filters, error %d", l[i%64], len(got), e)
		}
		if got, e := filter.Only(append(slices.Clone(l), ids[i]), false); got != nil || e != api.ErrFull {
			t.Errorf("with %d behind the others Only is %d filters, error %d", ids[i], len(got), e)
		}
	}
}

func TestOnlyOfManyLists(t *testing.T) {
	r := rand.New(rand.NewSource(113))
	for range 3000 {
		ext := r.Intn(2) == 0
		many, among := r.Intn(100), 1+r.Intn(90)
		some := map[uint32]int{}
		var ids, want []uint32
		for range many {
			id := uint32(r.Intn(among)) * (uint32(1)<<wide(ext) - 1) / 90
			if some[id]++; some[id] == 1 {
				want = append(want, id)
			}
			ids = append(ids, id)
		}
		slices.Sort(want)
		got, e := filter.Only(ids, ext)
		if len(want) > 64 && (got != nil || e != api.ErrFull) {
			t.Fatalf("of %d Only is %v, error %d", len(want), got, e)
		}
		if len(want) <= 64 && (e != api.OK || !slices.Equal(matches(t, got, ext), want)) {
			t.Fatalf("Only(%v) is %v, error %d", ids, got, e)
		}
	}
}
