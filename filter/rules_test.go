package filter_test

import (
	"math"
	"math/rand"
	"slices"
	"testing"
	"testing/quick"

	"jackstay/api"
	"jackstay/filter"
	"jackstay/samples"
)

// The rules that hold everywhere, R1 to R7, as far as they touch this layer. It has no
// objects (R5), and no texts.

// R1: every call has a result, whatever it is given, and it is the right one.
func TestEveryCallHasAResult(t *testing.T) {
	check := func(l []api.Filter, f api.Frame, a, b api.Filter, ids []uint32, ext bool) bool {
		hold(t, l, f)
		if filter.Right(a) != right(a) || filter.Covers(a, b) && !(right(a) && right(b) && a.Ext == b.Ext) {
			return false
		}
		out, e := filter.Only(ids, ext)
		return e == api.OK || out == nil && (e == api.ErrArg || e == api.ErrFull)
	}
	if err := quick.Check(check, &quick.Config{MaxCount: 5000, Rand: rand.New(rand.NewSource(1))}); err != nil {
		t.Error(err)
	}
}

// R1: so do long lists, which have no limit of their own.
func TestLongLists(t *testing.T) {
	wrong := slices.Repeat(samples.WrongFilters(), 5000)
	for _, l := range [][]api.Filter{wrong, append(slices.Clone(wrong), base(0, 0)), append(slices.Clone(wrong), base(7, 1), extended(0, 0))} {
		hold(t, l, api.Frame{ID: 1})
		hold(t, l, api.Frame{ID: 2})
		hold(t, l, api.Frame{ID: 1, Ext: true})
	}
	ids := slices.Repeat([]uint32{9, 4, 7, 4}, 1<<18)
	if got := matches(t, only(t, ids, false), false); !slices.Equal(got, []uint32{4, 7, 9}) {
		t.Errorf("of many identifiers Only accepts %v", got)
	}
	if got, e := filter.Only(upTo(0, 1<<20), true); got != nil || e != api.ErrFull {
		t.Errorf("of many identifiers Only is %d filters, error %d", len(got), e)
	}
	if got, e := filter.Only(upTo(0, 1<<20), false); got != nil || e != api.ErrArg {
		t.Errorf("of many identifiers Only is %d filters, error %d", len(got), e)
	}
}

// R2: the calls after an error are as if it had not been.
func TestErrorsChangeNothing(t *testing.T) {
	ids := []uint32{5, 3, 5}
	for round := range 3 {
		if l, e := filter.Only([]uint32{5, 2048}, false); l != nil || e != api.ErrArg {
			t.Errorf("round %d: Only is %v, error %d", round, l, e)
		}
		if l, e := filter.Only(upTo(0, 65), false); l != nil || e != api.ErrFull {
			t.Errorf("round %d: Only is %v, error %d", round, l, e)
		}
		if i, ok := filter.First(samples.WrongFilters(), api.Frame{ID: 5}); i != 0 || ok {
			t.Errorf("round %d: First is %d, %v", round, i, ok)
		}
		if l := only(t, ids, false); !slices.Equal(l, []api.Filter{base(2047, 3), base(2047, 5)}) {
			t.Errorf("round %d: Only is %v", round, l)
		}
	}
}

// R3: arguments stay as they are, and what lies behind their ends: with results, and
// beside errors.
func TestArgumentsStayAsTheyAre(t *testing.T) {
	for _, whole := range [][]uint32{
		{5, 3, 5, 1, 1, 9, 9, 0, 2, 5},
		{9, 8, 2048, 1, math.MaxUint32, 1, 0},
		slices.Repeat([]uint32{2, 1}, 40),
		append(upTo(10, 70), 3, 3, 2),
	} {
		before := slices.Clone(whole)
		for long := range len(whole) + 1 {
			filter.Only(whole[:long], false)
			filter.Only(whole[:long], true)
			if !slices.Equal(whole, before) {
				t.Fatalf("%d identifiers have become %v", long, whole)
			}
		}
	}
	whole := append(samples.WrongFilters(), base(7, 5), extended(7, 5), base(0, 0))
	before := slices.Clone(whole)
	f := api.Frame{ID: 5, Dlc: 3, Data: samples.Data(3)}
	for long := range len(whole) + 1 {
		filter.Pass(whole[:long], f)
		filter.First(whole[:long], f)
	}
	if !slices.Equal(whole, before) || !samples.Same(f, api.Frame{ID: 5, Dlc: 3, Data: samples.Data(3)}) {
		t.Errorf("the filters are %v, the frame %v", whole, f)
	}
}

// R3: results share no memory with each other, in their spare capacity neither, and
// none of the identifiers is kept.
func TestResultsAreNew(t *testing.T) {
	for many := range 65 {
		ids := upTo(3, many)
		one, other := only(t, ids, true), only(t, ids, true)
		clear(one[:cap(one)])
		clear(ids)
		if got := matches(t, other, true); !slices.Equal(got, upTo(3, many)) {
			t.Fatalf("of %d identifiers Only has become %v", many, got)
		}
		if got := matches(t, only(t, upTo(3, many), true), true); !slices.Equal(got, upTo(3, many)) {
			t.Fatalf("of %d identifiers Only is %v from now on", many, got)
		}
	}
}

// R4: the results hang on the arguments alone, not on the calls before, nor on a
// capacity.
func TestResultsHangOnArgumentsAlone(t *testing.T) {
	ids := []uint32{9, 4, 9, 7, 2}
	l := []api.Filter{base(7, 9), base(7, 1), extended(7, 1), base(0, 0)}
	r := rand.New(rand.NewSource(4))
	for round := range 100 {
		only(t, upTo(r.Uint32()%1000, r.Intn(65)), r.Intn(2) == 0)
		filter.Pass(someList(r, 5), someFrame(r, nil))
		for _, part := range [][]uint32{ids[:3], ids[:3:3]} {
			if got := matches(t, only(t, part, false), false); !slices.Equal(got, []uint32{4, 9}) {
				t.Fatalf("round %d: Only is %v", round, got)
			}
		}
		for _, part := range [][]api.Filter{l[:3], l[:3:3]} {
			if i, ok := filter.First(part, api.Frame{ID: 9}); i != 1 || !ok {
				t.Fatalf("round %d: First is %d, %v", round, i, ok)
			}
			if i, ok := filter.First(part, api.Frame{ID: 2}); i != 0 || ok || filter.Pass(part, api.Frame{ID: 2}) {
				t.Fatalf("round %d: First is %d, %v", round, i, ok)
			}
		}
		if !filter.Covers(l[3], l[1]) || filter.Covers(l[1], l[3]) {
			t.Fatalf("round %d: Covers is another one", round)
		}
	}
}

// R6: an empty list is as good as nil.
func TestEmptyIsNil(t *testing.T) {
	for _, l := range [][]api.Filter{nil, {}, make([]api.Filter, 0, 8), samples.WrongFilters()[:0]} {
		for _, f := range samples.Some() {
			if i, ok := filter.First(l, f); i != 0 || ok || !filter.Pass(l, f) {
				t.Errorf("of no filters, nil %v, First is %d, %v", l == nil, i, ok)
			}
		}
	}
	for _, ids := range [][]uint32{nil, {}, make([]uint32, 0, 8), upTo(2048, 3)[:0]} {
		for ext := range kinds() {
			if l, e := filter.Only(ids, ext); len(l) != 0 || e != api.OK {
				t.Errorf("of no identifiers, nil %v, Only is %v, error %d", ids == nil, l, e)
			}
		}
	}
}

// R7: there are no indexes here; masks, matches and identifiers beyond their ends are
// those of filters that are not right, of frames like others, and of ErrArg for Only.
func TestNumbersBeyondTheEnds(t *testing.T) {
	for ext := range kinds() {
		for bit := wide(ext); bit < 32; bit++ {
			for _, id := range []uint32{0, 5, 1<<wide(ext) - 1} {
				x := api.Filter{Ext: ext, Mask: 1<<bit | id, Match: id}
				y := api.Filter{Ext: ext, Mask: 1<<bit | id, Match: 1<<bit | id}
				f := api.Frame{ID: 1<<bit | id, Ext: ext}
				for _, wrong := range []api.Filter{x, y} {
					if filter.Right(wrong) || filter.Pass([]api.Filter{wrong}, f) {
						t.Errorf("%v is right, or accepts %v", wrong, f)
					}
				}
				if _, e := filter.Only([]uint32{f.ID}, ext); e != api.ErrArg {
					t.Errorf("Only of %#x is error %d", f.ID, e)
				}
				// A right filter does not look at such a bit.
				z := api.Filter{Ext: ext, Mask: 1<<wide(ext) - 1, Match: id}
				if !filter.Pass([]api.Filter{z}, f) {
					t.Errorf("%v does not accept %v", z, f)
				}
			}
		}
	}
}
