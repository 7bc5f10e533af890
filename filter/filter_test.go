package filter_test

import (
	"math/rand"
	"testing"

	"jackstay/api"
	"jackstay/filter"
	"jackstay/samples"
)

// P11.1

func TestRight(t *testing.T) {
	for _, x := range []api.Filter{
		{}, base(1, 0), base(1, 1), base(1792, 256), base(1792, 0), base(1792, 1792),
		base(api.MaxBase, 0), base(api.MaxBase, 5), base(api.MaxBase, api.MaxBase),
		base(1<<10, 0), base(1<<10, 1<<10),
		extended(0, 0), extended(1, 1), extended(1792, 256), extended(api.MaxBase+1, api.MaxBase+1),
		extended(api.MaxExt, 0), extended(api.MaxExt, 5), extended(api.MaxExt, api.MaxExt),
		extended(1<<28, 0), extended(1<<28, 1<<28),
	} {
		if !filter.Right(x) {
			t.Errorf("%v is not right", x)
		}
	}
	for _, x := range samples.WrongFilters() {
		if filter.Right(x) {
			t.Errorf("%v is right", x)
		}
	}
}

// All masks with at most two ones, and all matches with at most two.
func TestRightBitByBit(t *testing.T) {
	pairs := []uint32{0}
	for i := range 32 {
		for j := range i + 1 {
			pairs = append(pairs, 1<<i|1<<j)
		}
	}
	for ext := range kinds() {
		for _, mask := range pairs {
			for _, match := range pairs {
				x := api.Filter{Ext: ext, Mask: mask, Match: match}
				if filter.Right(x) != right(x) {
					t.Fatalf("Right(%v) is %v", x, !right(x))
				}
			}
		}
	}
	for x := range small(0, 1, 9, 10, 11, 12) {
		if filter.Right(x) != right(x) {
			t.Fatalf("Right(%v) is %v", x, !right(x))
		}
	}
}

// The chapter's first example, and what lies around it.
func TestOneFilter(t *testing.T) {
	l := []api.Filter{base(1792, 256)}
	for id := range uint32(api.MaxBase + 1) {
		want := id >= 256 && id <= 511
		if filter.Pass(l, api.Frame{ID: id}) != want {
			t.Errorf("that %d passes is %v", id, !want)
		}
		if i, ok := filter.First(l, api.Frame{ID: id}); i != 0 || ok != want {
			t.Errorf("First of %d is %d, %v", id, i, ok)
		}
		if filter.Pass(l, api.Frame{ID: id, Ext: true}) {
			t.Errorf("the extended %d passes", id)
		}
		if i, ok := filter.First(l, api.Frame{ID: id, Ext: true}); i != 0 || ok {
			t.Errorf("First of the extended %d is %d, %v", id, i, ok)
		}
	}
}

// All base frames, by all right filters whose masks have at most three ones, or three
// zeros.
func TestAllBaseFrames(t *testing.T) {
	for mask := range uint32(api.MaxBase + 1) {
		ones := 0
		for bit := range 11 {
			if one(mask, bit) {
				ones++
			}
		}
		if ones > 3 && ones < 8 {
			continue
		}
		for _, match := range []uint32{0, 0x555 & mask, 0x2c6 & mask, mask} {
			l := []api.Filter{base(mask, match)}
			for id := range uint32(api.MaxBase + 1) {
				if want := id&mask == match; filter.Pass(l, api.Frame{ID: id}) != want {
					t.Fatalf("that %d passes %v is %v", id, l, !want)
				}
			}
		}
	}
}

// Masks of zeros accept all frames of their kind, masks of ones a single identifier.
func TestZerosAndOnes(t *testing.T) {
	frames := samples.Right()
	for ext := range kinds() {
		all := uint32(1)<<wide(ext) - 1
		for _, f := range frames {
			if filter.Pass([]api.Filter{{Ext: ext}}, f) != (f.Ext == ext) {
				t.Errorf("a mask of zeros, extended %v, is wrong of %v", ext, f)
			}
			for _, g := range frames[:21] {
				x := api.Filter{Ext: ext, Mask: all, Match: g.ID & all}
				if want := f.Ext == ext && f.ID == g.ID&all; filter.Pass([]api.Filter{x}, f) != want {
					t.Errorf("that %v passes %v is %v", f, x, !want)
				}
			}
		}
	}
}

// Each bit of a mask, and of an identifier, of both kinds.
func TestEachBit(t *testing.T) {
	for ext := range kinds() {
		all := uint32(1)<<wide(ext) - 1
		for bit := range wide(ext) {
			for _, id := range []uint32{0, 1 << bit, all &^ (1 << bit), all} {
				for _, match := range []uint32{0, 1 << bit} {
					x := api.Filter{Ext: ext, Mask: 1 << bit, Match: match}
					want := one(id, bit) == (match > 0)
					if filter.Pass([]api.Filter{x}, api.Frame{ID: id, Ext: ext}) != want {
						t.Errorf("that %#x passes %v is %v", id, x, !want)
					}
				}
				// One bit that is another one is enough.
				x := api.Filter{Ext: ext, Mask: all, Match: id ^ 1<<bit}
				if filter.Pass([]api.Filter{x}, api.Frame{ID: id, Ext: ext}) {
					t.Errorf("%#x passes %v", id, x)
				}
			}
		}
	}
}

// A frame of the other kind is none of a filter's, whatever its identifier.
func TestTheOtherKind(t *testing.T) {
	for x := range small(0, 5, 10) {
		for _, id := range sums([]int{0, 5, 10}) {
			f := api.Frame{ID: id, Ext: !x.Ext}
			if i, ok := filter.First([]api.Filter{x}, f); i != 0 || ok || filter.Pass([]api.Filter{x}, f) {
				t.Fatalf("%v passes %v", f, x)
			}
		}
	}
}

// Whether a frame is remote, and its data, do not matter: also if they may not be.
func TestKindsOfFrames(t *testing.T) {
	l := []api.Filter{base(0x7f0, 0x120), extended(0x7ff<<18, 0x123<<18), base(api.MaxBase, 5), extended(1, 1)}
	for _, f := range append(samples.Right(), samples.Wrong()...) {
		hold(t, l, f)
		i, ok := filter.First(l, f)
		for _, g := range []api.Frame{
			{ID: f.ID, Ext: f.Ext},
			{ID: f.ID, Ext: f.Ext, Remote: true},
			{ID: f.ID, Ext: f.Ext, Dlc: 8, Data: samples.Data(8)},
			{ID: f.ID, Ext: f.Ext, Remote: true, Dlc: 255, Data: samples.Data(3)},
		} {
			if j, same := filter.First(l, g); i != j || ok != same || filter.Pass(l, g) != ok {
				t.Fatalf("First of %v is %d, %v, of %v it is %d, %v", f, i, ok, g, j, same)
			}
		}
	}
}

// An empty list accepts everything, though none of its filters does.
func TestAnEmptyList(t *testing.T) {
	for _, f := range append(samples.Right(), samples.Wrong()...) {
		if !filter.Pass(nil, f) {
			t.Errorf("%v does not pass", f)
		}
		if i, ok := filter.First(nil, f); i != 0 || ok {
			t.Errorf("First of %v is %d, %v", f, i, ok)
		}
	}
}

// Filters that are not right accept nothing: a list of them is not an empty one.
func TestWrongFiltersAlone(t *testing.T) {
	wrong := samples.WrongFilters()
	for _, f := range append(samples.Right(), samples.Wrong()...) {
		if i, ok := filter.First(wrong, f); i != 0 || ok || filter.Pass(wrong, f) {
			t.Errorf("%v passes wrong filters", f)
		}
		for _, x := range wrong {
			if i, ok := filter.First([]api.Filter{x}, f); i != 0 || ok || filter.Pass([]api.Filter{x}, f) {
				t.Errorf("%v passes %v", f, x)
			}
		}
	}
}

// Beside right filters they change nothing but indexes.
func TestWrongFiltersBesideRightOnes(t *testing.T) {
	some := []api.Filter{base(7, 1), extended(7, 2), base(0x400, 0x400)}
	for _, x := range samples.WrongFilters() {
		l := []api.Filter{x, some[0], x, some[1], some[2], x}
		places := []int{1, 3, 4}
		for _, f := range samples.Right() {
			i, ok := filter.First(some, f)
			want := 0
			if ok {
				want = places[i]
			}
			if j, same := filter.First(l, f); j != want || same != ok || filter.Pass(l, f) != ok {
				t.Fatalf("with %v First of %v is %d, %v", x, f, j, same)
			}
		}
	}
}

// The first one of several that accept a frame is told.
func TestFirst(t *testing.T) {
	l := []api.Filter{base(7, 9), base(15, 9), extended(0, 0), base(7, 1), base(7, 1), base(0, 0)}
	for _, x := range []struct {
		f    api.Frame
		want int
	}{
		{api.Frame{ID: 9}, 1},
		{api.Frame{ID: 25}, 1},
		{api.Frame{ID: 1}, 3},
		{api.Frame{ID: 17}, 3},
		{api.Frame{ID: 2}, 5},
		{api.Frame{ID: 8}, 5},
		{api.Frame{ID: api.MaxBase}, 5},
		{api.Frame{ID: 9, Ext: true}, 2},
		{api.Frame{ID: api.MaxExt, Ext: true}, 2},
	} {
		if i, ok := filter.First(l, x.f); i != x.want || !ok {
			t.Errorf("First of %v is %d, %v, not %d", x.f, i, ok, x.want)
		}
		// All behind it is as good as gone, it alone is not.
		if i, ok := filter.First(l[:x.want+1], x.f); i != x.want || !ok {
			t.Errorf("First of %v in a shorter list is %d, %v", x.f, i, ok)
		}
		if i, ok := filter.First(l[:x.want], x.f); i != 0 || ok {
			t.Errorf("First of %v ahead of its filter is %d, %v", x.f, i, ok)
		}
	}
}

// All lists of three small filters, wrong ones too, by all frames that they tell apart.
func TestAllShortLists(t *testing.T) {
	var l [3]api.Filter
	for l[0] = range small(0, 10) {
		for l[1] = range small(0, 10) {
			for l[2] = range small(0, 10) {
				for _, id := range []uint32{0, 1, 1 << 10, 1<<10 | 1} {
					hold(t, l[:], api.Frame{ID: id})
					hold(t, l[:], api.Frame{ID: id, Ext: true})
				}
			}
		}
	}
}

func TestManyLists(t *testing.T) {
	r := rand.New(rand.NewSource(11))
	for range 3000 {
		l := someList(r, 80)
		for range 20 {
			hold(t, l, someFrame(r, l))
		}
	}
}

// P11.4

// A list with one more filter accepts no less, unless it was empty, and then as much as
// that filter.
func TestOneMoreFilter(t *testing.T) {
	r := rand.New(rand.NewSource(114))
	for range 3000 {
		l := someList(r, 6)
		x := someFilter(r)
		more := append(append([]api.Filter{}, l...), x)
		for range 20 {
			f := someFrame(r, more)
			alone := filter.Pass([]api.Filter{x}, f)
			want := alone || len(l) > 0 && filter.Pass(l, f)
			if filter.Pass(more, f) != want {
				t.Fatalf("with %v behind %v that %v passes is %v", x, l, f, !want)
			}
			if i, ok := filter.First(l, f); ok {
				if j, same := filter.First(more, f); j != i || !same {
					t.Fatalf("with %v behind %v First of %v is %d, not %d", x, l, f, j, i)
				}
			}
		}
	}
}
