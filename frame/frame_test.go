package frame_test

import (
	"slices"
	"strings"
	"testing"

	"jackstay/api"
	"jackstay/bits"
	"jackstay/crc"
	"jackstay/frame"
	"jackstay/rows"
	"jackstay/samples"
	"jackstay/stuff"
)

// number is the text of the lowest many bits of n.
func number(n uint32, many int) string { return rows.Text(bits.Of(n, many)) }

// kind is the text of one bit.
func kind(recessive bool) string {
	if recessive {
		return "r"
	}
	return "d"
}

// first is what the first part of the head of f should be, and behind what the rest.
func first(f api.Frame) string {
	if f.Ext {
		return "d" + number(f.ID>>18, 11) + "rr" + number(f.ID, 18) + kind(f.Remote)
	}
	return "d" + number(f.ID, 11) + kind(f.Remote) + "d"
}

func behind(f api.Frame) string {
	if f.Ext {
		return "dd" + number(uint32(f.Dlc), 4)
	}
	return "d" + number(uint32(f.Dlc), 4)
}

// summed is a text with its check sum behind it.
func summed(s string) string { return s + number(uint32(crc.Sum(rows.Of(s))), 15) }

// bodyOf is what the body of f should be.
func bodyOf(f api.Frame) string {
	return summed(first(f) + behind(f) + rows.Text(bits.OfBytes(f.Data)))
}

// body calls Body with a frame that is right, and tells its bits by a text.
func body(t *testing.T, f api.Frame) string {
	t.Helper()
	l, e := frame.Body(f)
	if e != api.OK {
		t.Fatalf("Body(%v) is error %d", f, e)
	}
	return rows.Text(l)
}

// P4.1

func TestRight(t *testing.T) {
	for _, f := range samples.Right() {
		if !frame.Right(f) {
			t.Errorf("%v is not right", f)
		}
	}
	for _, f := range samples.Wrong() {
		if frame.Right(f) {
			t.Errorf("%v is right", f)
		}
	}
}

func TestRightHangsOnTheID(t *testing.T) {
	for _, x := range []struct {
		id        uint32
		base, ext bool
	}{
		{0, true, true},
		{api.MaxBase, true, true},
		{api.MaxBase + 1, false, true},
		{api.MaxExt, false, true},
		{api.MaxExt + 1, false, false},
		{1 << 31, false, false},
		{1<<32 - 1, false, false},
	} {
		for _, remote := range []bool{false, true} {
			if frame.Right(samples.Made(x.id, false, remote, 3)) != x.base {
				t.Errorf("the base ID %#x, remote %v, is right: %v", x.id, remote, !x.base)
			}
			if frame.Right(samples.Made(x.id, true, remote, 3)) != x.ext {
				t.Errorf("the extended ID %#x, remote %v, is right: %v", x.id, remote, !x.ext)
			}
		}
	}
}

func TestRightHangsOnTheLength(t *testing.T) {
	for dlc := range 256 {
		for many := range 300 {
			f := api.Frame{Dlc: uint8(dlc), Data: make([]byte, many)}
			want := dlc <= 8 && many == dlc || dlc > 8 && dlc <= 15 && many == 8
			if frame.Right(f) != want {
				t.Fatalf("with Dlc %d and %d bytes it is right: %v", dlc, many, !want)
			}
			f.Remote = true
			want = dlc <= 15 && many == 0
			if frame.Right(f) != want {
				t.Fatalf("remote, with Dlc %d and %d bytes it is right: %v", dlc, many, !want)
			}
		}
	}
}

func TestLong(t *testing.T) {
	want := []int{0, 1, 2, 3, 4, 5, 6, 7, 8, 8, 8, 8, 8, 8, 8, 8}
	for dlc, many := range want {
		for _, ext := range []bool{false, true} {
			// What Data has does not count, nor does the ID.
			for _, has := range [][]byte{nil, samples.Data(1), samples.Data(11)} {
				f := api.Frame{ID: 1<<32 - 1, Ext: ext, Dlc: uint8(dlc), Data: has}
				if n := frame.Long(f); n != many {
					t.Errorf("Dlc %d means %d bytes, not %d", dlc, n, many)
				}
				f.Remote = true
				if n := frame.Long(f); n != 0 {
					t.Errorf("Dlc %d, remote, means %d bytes", dlc, n)
				}
			}
		}
	}
}

func TestBody(t *testing.T) {
	for _, x := range []struct {
		f    api.Frame
		want string
	}{
		{api.Frame{}, "d ddddddddddd d d d dddd ddddddddddddddd"},
		{api.Frame{ID: 0x123, Dlc: 1, Data: []byte{0xaa}}, "d ddrddrdddrr d d d dddr rdrdrdrd drdddrrrrrrdrrd"},
		{api.Frame{ID: 0x7ff, Remote: true, Dlc: 15}, "d rrrrrrrrrrr r d d rrrr rrrddrrdddrdddd"},
		{api.Frame{ID: 1, Dlc: 0}, "d ddddddddddr d d d dddd drdddrddddrddrr"},
		{api.Frame{ID: 1 << 18, Ext: true, Remote: true, Dlc: 8}, "d ddddddddddr rr dddddddddddddddddd r dd rddd rrrddrrrdddrdrr"},
		{api.Frame{ID: 0x1abcdef5, Ext: true, Dlc: 2, Data: []byte{0x0f, 0x80}}, "d rrdrdrdrrrr rr ddrrdrrrrdrrrrdrdr d dd ddrd ddddrrrrrddddddd rrddrrddddrrrrd"},
	} {
		want := strings.ReplaceAll(x.want, " ", "")
		if s := body(t, x.f); s != want {
			t.Errorf("Body(%v) is %q, not %q", x.f, s, want)
		}
	}
}

func TestBodyOfManyFrames(t *testing.T) {
	for _, f := range samples.Right() {
		if s := body(t, f); s != bodyOf(f) {
			t.Errorf("Body(%v) is %q, not %q", f, s, bodyOf(f))
		}
	}
}

func TestBodyOfAllBaseIDs(t *testing.T) {
	for id := range uint32(1 << 11) {
		for _, remote := range []bool{false, true} {
			f := samples.Made(id, false, remote, uint8(id%16))
			if s := body(t, f); s != bodyOf(f) {
				t.Fatalf("Body(%v) is %q, not %q", f, s, bodyOf(f))
			}
		}
	}
}

// Each bit of an extended ID has its place.
func TestBodyOfExtendedBits(t *testing.T) {
	for place := range 29 {
		for _, id := range []uint32{1 << place, api.MaxExt &^ (1 << place)} {
			f := samples.Made(id, true, place%2 == 0, 3)
			if s := body(t, f); s != bodyOf(f) {
				t.Errorf("Body(%v) is %q, not %q", f, s, bodyOf(f))
			}
		}
	}
}

func TestWire(t *testing.T) {
	for _, x := range []struct {
		f    api.Frame
		want string
	}{
		{api.Frame{}, "dddddr dddddr dddddr dddddr dddddr dddddr dddd rrrrrrrrrr"},
		{api.Frame{ID: 1}, "dddddr dddddr drdddddr dddrdddrddddrddrr rrrrrrrrrr"},
		{api.Frame{ID: 0x7ff, Remote: true, Dlc: 15}, "drrrrrd rrrrrd rrddrrrrrd rrddrrdddrdddd rrrrrrrrrr"},
		{api.Frame{ID: 0x123, Dlc: 1, Data: []byte{0xaa}}, "dddrddrdddrrdddddr drrdrdrdrddrdddrrrrrd rdrrd rrrrrrrrrr"},
		// Five equal bits at the end of the body: their stuff bit is ahead of the rest.
		{api.Frame{ID: 9}, "dddddr dddrddrdddddr ddrrrrrd ddddr rdddddr rrrrrrrrrr"},
		{api.Frame{ID: 0x17}, "dddddr ddrdrrrdddddr ddrdrddrddddrrrrrd rrrrrrrrrr"},
	} {
		l, e := frame.Wire(x.f)
		want := strings.ReplaceAll(x.want, " ", "")
		if s := rows.Text(l); s != want || e != api.OK {
			t.Errorf("Wire(%v) is %q, error %d, not %q", x.f, s, e, want)
		}
	}
}

func TestWireOfManyFrames(t *testing.T) {
	const closing = "rrrrrrrrrr"
	for _, f := range samples.Right() {
		l, e := frame.Wire(f)
		want := rows.Text(stuff.Put(rows.Of(bodyOf(f)))) + closing
		if s := rows.Text(l); s != want || e != api.OK {
			t.Errorf("Wire(%v) is %q, error %d, not %q", f, s, e, want)
		}
		plain, wrong := stuff.Take(l[:len(l)-len(closing)])
		if s := rows.Text(plain); s != bodyOf(f) || wrong != -1 {
			t.Errorf("of Wire(%v) %q is taken, and %d is wrong", f, s, wrong)
		}
	}
}

func TestFramesThatAreNotRight(t *testing.T) {
	for _, f := range samples.Wrong() {
		if l, e := frame.Body(f); l != nil || e != api.ErrFrame {
			t.Errorf("Body(%v) is %v, error %d", f, l, e)
		}
		if l, e := frame.Wire(f); l != nil || e != api.ErrFrame {
			t.Errorf("Wire(%v) is %v, error %d", f, l, e)
		}
	}
}

// P4.2

func TestHead(t *testing.T) {
	const (
		base = "d" + "ddrddrdddrr"
		ext  = "d" + "ddrddrdddrr" + "rr" + "rdrdrdrdrdrdrdrdrd"
	)
	for _, x := range []struct {
		l    string
		many int
	}{
		{"", 0},
		{"d", 0},
		{"r", 0},
		{base, 0},
		// 13 and 14 bits, without and with the bit that tells the kind.
		{base + "d", 0},
		{base + "dd", 0},
		{base + "dr", 0},
		// 18 and 19 bits of a base frame.
		{base + "dddddd", 0},
		{base + "dd" + "d" + "ddr", 0},
		{base + "dd" + "d" + "dddr", 42},
		{base + "dd" + "d" + "dddd", 34},
		{base + "dd" + "d" + "rddd", 98},
		{base + "dd" + "d" + "rddr", 98},
		{base + "dd" + "d" + "rrrr", 98},
		{base + "rd" + "d" + "dddr", 34},
		{base + "rd" + "d" + "rrrr", 34},
		// What is behind the head does not count.
		{base + "dd" + "d" + "dddr" + "r", 42},
		{base + "dd" + "d" + "dddr" + strings.Repeat("r", 200), 42},
		// 18, 19, 38 and 39 bits of an extended one.
		{ext[:18], 0},
		{ext[:19], 0},
		{ext, 0},
		{ext + "d" + "dd" + "ddr", 0},
		{ext + "d" + "dd" + "dddd", 54},
		{ext + "d" + "dd" + "dddr", 62},
		{ext + "d" + "dd" + "drrr", 110},
		{ext + "d" + "dd" + "rddd", 118},
		{ext + "d" + "dd" + "rrrr", 118},
		{ext + "r" + "dd" + "rddd", 54},
		{ext + "r" + "dd" + "dddd", 54},
		{ext + "d" + "dd" + "rddd" + strings.Repeat("d", 200), 118},
		// Fixed bits that do not matter.
		{base + "dd" + "r" + "dddr", 42},
		{base + "rd" + "r" + "dddr", 34},
		{base + "dr" + ext[14:] + "d" + "dd" + "ddrd", 70},
		{base + "dr" + ext[14:] + "r" + "dd" + "ddrd", 54},
		{ext + "d" + "rd" + "ddrd", 70},
		{ext + "d" + "dr" + "ddrd", 70},
		{ext + "d" + "rr" + "ddrd", 70},
	} {
		many, known := frame.Head(rows.Of(x.l))
		if many != x.many || known != (x.many != 0) {
			t.Errorf("Head(%q) is %d, %v, not %d", x.l, many, known, x.many)
		}
	}
}

// Head tells from just the head on how many bits the body has.
func TestHeadOfAllBeginnings(t *testing.T) {
	for _, f := range samples.Right() {
		l, _ := frame.Body(f)
		head := len(first(f) + behind(f))
		for long := range len(l) + 1 {
			many, known := frame.Head(l[:long])
			if long < head && (many != 0 || known) {
				t.Fatalf("Head of %d bits of %v is %d, %v", long, f, many, known)
			}
			if long >= head && (many != len(l) || !known) {
				t.Fatalf("Head of %d bits of %v is %d, %v, not %d", long, f, many, known, len(l))
			}
		}
	}
}

// The ID says nothing of the length, nor does the first bit: that Parse looks at.
func TestHeadHangsOnTheKindAndTheLengthAlone(t *testing.T) {
	for id := range uint32(1 << 12) {
		s := number(id, 12) + "dd" + "d" + "ddrr"
		if many, known := frame.Head(rows.Of(s)); many != 58 || !known {
			t.Fatalf("Head(%q) is %d, %v", s, many, known)
		}
		s = number(id, 12) + "rr" + number(id*0x15555, 18) + "d" + "dd" + "ddrr"
		if many, known := frame.Head(rows.Of(s)); many != 78 || !known {
			t.Fatalf("Head(%q) is %d, %v", s, many, known)
		}
	}
}

// P4.3

func TestParse(t *testing.T) {
	for _, x := range []struct {
		l    string
		want api.Frame
	}{
		{"d ddddddddddd d d d dddd ddddddddddddddd", api.Frame{}},
		{"d ddrddrdddrr d d d dddr rdrdrdrd drdddrrrrrrdrrd", api.Frame{ID: 0x123, Dlc: 1, Data: []byte{0xaa}}},
		{"d rrrrrrrrrrr r d d rrrr rrrddrrdddrdddd", api.Frame{ID: 0x7ff, Remote: true, Dlc: 15}},
		{"d ddddddddddr rr dddddddddddddddddd r dd rddd rrrddrrrdddrdrr", api.Frame{ID: 1 << 18, Ext: true, Remote: true, Dlc: 8}},
		{"d rrdrdrdrrrr rr ddrrdrrrrdrrrrdrdr d dd ddrd ddddrrrrrddddddd rrddrrddddrrrrd", api.Frame{ID: 0x1abcdef5, Ext: true, Dlc: 2, Data: []byte{0x0f, 0x80}}},
	} {
		f, e := frame.Parse(rows.Of(strings.ReplaceAll(x.l, " ", "")))
		if !samples.Same(f, x.want) || e != api.OK {
			t.Errorf("Parse(%q) is %v, error %d, not %v", x.l, f, e, x.want)
		}
	}
}

// The bits that are fixed, and say nothing, may be of either kind; they count for the
// check sum.
func TestParseOfFixedBits(t *testing.T) {
	for _, x := range []struct {
		l    string
		want api.Frame
	}{
		{"d ddrddrdddrr d d r dddd", api.Frame{ID: 0x123}},
		{"d ddrddrdddrr r d r dddr", api.Frame{ID: 0x123, Remote: true, Dlc: 1}},
		{"d ddrddrdddrr d d r dddr rdrdrdrd", api.Frame{ID: 0x123, Dlc: 1, Data: []byte{0xaa}}},
		{"d ddddddddddr dr ddddddddddddddddrd d dd dddd", api.Frame{ID: 1<<18 + 2, Ext: true}},
		{"d ddddddddddr dr ddddddddddddddddrd r dd dddd", api.Frame{ID: 1<<18 + 2, Ext: true, Remote: true}},
		{"d ddddddddddr rr ddddddddddddddddrd d rd dddd", api.Frame{ID: 1<<18 + 2, Ext: true}},
		{"d ddddddddddr rr ddddddddddddddddrd d dr dddd", api.Frame{ID: 1<<18 + 2, Ext: true}},
		{"d ddddddddddr dr ddddddddddddddddrd d rr dddr drdrdrdr", api.Frame{ID: 1<<18 + 2, Ext: true, Dlc: 1, Data: []byte{0x55}}},
	} {
		s := strings.ReplaceAll(x.l, " ", "")
		f, e := frame.Parse(rows.Of(summed(s)))
		if !samples.Same(f, x.want) || e != api.OK {
			t.Errorf("Parse of %q and its sum is %v, error %d, not %v", s, f, e, x.want)
		}
	}
}

// The fixed bits of frames of all kinds, one by one and all at once.
func TestParseOfFixedBitsOfManyFrames(t *testing.T) {
	for _, f := range samples.Right() {
		fixed := []int{14}
		if f.Ext {
			fixed = []int{12, 33, 34}
		}
		l := rows.Of(bodyOf(f))
		for which := range 1 << len(fixed) {
			other := slices.Clone(l[:len(l)-15])
			for i, place := range fixed {
				if which>>i&1 == 1 {
					other[place] = !other[place]
				}
			}
			got, e := frame.Parse(rows.Of(summed(rows.Text(other))))
			if !samples.Same(got, f) || e != api.OK {
				t.Errorf("Parse of %v, with fixed bits inverted (%b), is %v, error %d", f, which, got, e)
			}
		}
	}
}

func TestParseOfAFirstBitThatIsRecessive(t *testing.T) {
	for _, f := range samples.Right() {
		s := bodyOf(f)
		turned := "r" + s[1:]
		// With a check sum that is not right, and with one that is: ErrBits is first.
		for _, l := range []string{turned, summed(turned[:len(s)-15])} {
			if got, e := frame.Parse(rows.Of(l)); !samples.Same(got, api.Frame{}) || e != api.ErrBits {
				t.Errorf("Parse(%q) is %v, error %d", l, got, e)
			}
		}
	}
}

func TestParseOfTooFewOrTooManyBits(t *testing.T) {
	for _, f := range samples.Right() {
		s := bodyOf(f)
		for long := range len(s) {
			if got, e := frame.Parse(rows.Of(s[:long])); !samples.Same(got, api.Frame{}) || e != api.ErrBits {
				t.Fatalf("Parse of %d bits of %v is %v, error %d", long, f, got, e)
			}
		}
		for _, more := range []string{"d", "r", "dddddddd", strings.Repeat("r", 15), strings.Repeat("d", 200), s} {
			// What is behind a body leaves the sum right if it is dominant.
			for _, l := range []string{s + more, summed(s[:len(s)-15] + more)} {
				if got, e := frame.Parse(rows.Of(l)); !samples.Same(got, api.Frame{}) || e != api.ErrBits {
					t.Fatalf("Parse(%q) is %v, error %d", l, got, e)
				}
			}
		}
	}
}

// The check sum is looked at last, and all of its bits, and all bits before, count.
func TestParseOfOtherCheckSums(t *testing.T) {
	for _, f := range samples.Right() {
		l := rows.Of(bodyOf(f))
		for place := range l {
			other := slices.Clone(l)
			other[place] = !other[place]
			want := api.ErrCrc
			if many, _ := frame.Head(other); place == 0 || many != len(l) {
				want = api.ErrBits
			}
			if got, e := frame.Parse(other); !samples.Same(got, api.Frame{}) || e != want {
				t.Fatalf("Parse of %v with bit %d inverted is %v, error %d, not %d", f, place, got, e, want)
			}
		}
	}
}

func TestParseOfAllCheckSums(t *testing.T) {
	s := "dddrddrdddrrddddddrrdrdrdrd"
	want := crc.Sum(rows.Of(s))
	for sum := range uint16(1 << 15) {
		e := api.ErrCrc
		if sum == want {
			e = api.OK
		}
		if _, got := frame.Parse(rows.Of(s + number(uint32(sum), 15))); got != e {
			t.Fatalf("with the sum %#x Parse is error %d, not %d", sum, got, e)
		}
	}
}

// P4.4

func TestBefore(t *testing.T) {
	base := func(id uint32) api.Frame { return api.Frame{ID: id} }
	ext := func(id uint32) api.Frame { return api.Frame{ID: id, Ext: true} }
	remote := func(f api.Frame) api.Frame {
		f.Remote = true
		return f
	}
	for _, x := range []struct {
		a, b      api.Frame
		one, wins bool // whether a wins, and whether one of them does
	}{
		{base(1), base(2), true, true},
		{base(0), base(0x7ff), true, true},
		{base(0x3ff), base(0x400), true, true},
		{base(5), base(5), false, false},
		{remote(base(5)), remote(base(5)), false, false},
		{base(5), remote(base(5)), true, true},
		{remote(base(5)), base(6), true, true},
		{base(1), ext(1 << 18), true, true},
		{remote(base(1)), ext(1 << 18), true, true},
		{base(1), ext(2<<18 - 1), true, true},
		{remote(base(1)), remote(ext(1<<18 + 1)), true, true},
		{ext(1 << 18), base(2), true, true},
		{ext(2<<18 - 1), base(2), true, true},
		{base(1), ext(2), false, true},
		{remote(ext(0)), base(1), true, true},
		{ext(9), ext(10), true, true},
		{ext(9), ext(9), false, false},
		{ext(9), remote(ext(9)), true, true},
		{remote(ext(9)), ext(10), true, true},
		{remote(ext(9)), remote(ext(9)), false, false},
		{ext(1<<18 - 1), ext(1 << 18), true, true},
		{ext(1<<29 - 2), ext(1<<29 - 1), true, true},
		// What is behind the first part does not count.
		{samples.Made(5, false, false, 0), samples.Made(5, false, false, 8), false, false},
		{samples.Made(5, false, true, 0), samples.Made(5, false, true, 15), false, false},
		{samples.Made(5, true, false, 8), samples.Made(5, true, false, 9), false, false},
		{samples.Made(5, false, false, 15), samples.Made(6, false, false, 0), true, true},
	} {
		if frame.Before(x.a, x.b) != x.one {
			t.Errorf("%v is before %v: %v", x.a, x.b, !x.one)
		}
		if frame.Before(x.b, x.a) != (x.wins && !x.one) {
			t.Errorf("%v is before %v: %v", x.b, x.a, x.one)
		}
	}
}

// Texts are ordered as arbitration is: d is below r.
func TestBeforeOfManyFrames(t *testing.T) {
	all := samples.Right()
	for _, a := range all {
		for _, b := range all {
			if want := first(a) < first(b); frame.Before(a, b) != want {
				t.Fatalf("%v is before %v: %v", a, b, !want)
			}
		}
	}
}

// left sends two rows at once, and reports which of them are still sent at the end of
// the shorter one: who drives recessive, and finds dominant, stops.
func left(one, other []bool) (bool, bool) {
	first, second := true, true
	for k := range min(len(one), len(other)) {
		// Who has stopped drives recessive.
		bus := bits.Bus([]bool{one[k] || !first, other[k] || !second})
		first = first && one[k] == bus
		second = second && other[k] == bus
	}
	return first, second
}

func TestBeforeIsWhatTheBusDoes(t *testing.T) {
	all := samples.Right()
	for _, a := range all {
		for _, b := range all {
			one, other := left(rows.Of(first(a)), rows.Of(first(b)))
			if frame.Before(a, b) != (one && !other) {
				t.Fatalf("%v is before %v: %v; on the bus there are left: %v, %v", a, b, !one || other, one, other)
			}
		}
	}
}

func TestBeforeOfFramesThatAreNotRight(t *testing.T) {
	least, greatest := api.Frame{}, api.Frame{ID: api.MaxExt, Ext: true, Remote: true}
	for _, f := range samples.Wrong() {
		for _, right := range []api.Frame{least, greatest} {
			if frame.Before(f, right) || frame.Before(right, f) {
				t.Errorf("of %v and %v one is before", f, right)
			}
		}
		if frame.Before(f, f) {
			t.Errorf("%v is before itself", f)
		}
	}
}

// P4.5

func TestParseReturnsWhatBodyIsOf(t *testing.T) {
	for _, f := range samples.Right() {
		l, e := frame.Body(f)
		if e != api.OK {
			t.Fatalf("Body(%v) is error %d", f, e)
		}
		got, e := frame.Parse(l)
		if !samples.Same(got, f) || e != api.OK {
			t.Errorf("%v comes back as %v, error %d", f, got, e)
		}
	}
}

func TestAllIDsComeBack(t *testing.T) {
	back := func(f api.Frame) {
		l, _ := frame.Body(f)
		if got, e := frame.Parse(l); !samples.Same(got, f) || e != api.OK {
			t.Fatalf("%v comes back as %v, error %d", f, got, e)
		}
	}
	for id := range uint32(1 << 11) {
		back(samples.Made(id, false, id%3 == 0, uint8(id%16)))
	}
	// The step is odd, and so meets all places of an ID.
	for id := uint32(0); id <= api.MaxExt; id += 0x15b3d {
		back(samples.Made(id, true, id%3 == 0, uint8(id%16)))
	}
}

func TestAllBytesComeBack(t *testing.T) {
	for n := range 256 {
		for place := range 8 {
			f := api.Frame{ID: 5, Dlc: 8, Data: make([]byte, 8)}
			f.Data[place] = byte(n)
			l, _ := frame.Body(f)
			if got, e := frame.Parse(l); !samples.Same(got, f) || e != api.OK {
				t.Fatalf("%v comes back as %v, error %d", f, got, e)
			}
		}
	}
}

func TestBodiesDiffer(t *testing.T) {
	all := samples.Right()
	for id := range uint32(1 << 11) {
		all = append(all, samples.Made(id, false, true, 7), samples.Made(id, false, false, 1), api.Frame{ID: id, Dlc: 1, Data: []byte{byte(id)}})
	}
	for place := range 29 {
		all = append(all, samples.Made(1<<place, true, false, 0), samples.Made(1<<place, true, true, 0))
	}
	met := map[string]api.Frame{}
	for _, f := range all {
		s := body(t, f)
		if other, is := met[s]; is && !samples.Same(other, f) {
			t.Fatalf("%v and %v have the same body", f, other)
		}
		met[s] = f
	}
}

// Of two frames one wins, and not both, unless their first parts are the same.
func TestAtMostOneWins(t *testing.T) {
	all := samples.Right()
	for _, a := range all {
		for _, b := range all {
			one, other := frame.Before(a, b), frame.Before(b, a)
			alike := a.ID == b.ID && a.Ext == b.Ext && a.Remote == b.Remote
			if one && other || (one || other) == alike {
				t.Fatalf("%v is before %v: %v; the other way round: %v", a, b, one, other)
			}
		}
	}
}

func TestABaseFrameWins(t *testing.T) {
	for id := range uint32(1 << 11) {
		for _, low := range []uint32{0, 1, 1 << 17, 1<<18 - 1} {
			for kinds := range 4 {
				a := api.Frame{ID: id, Remote: kinds&1 == 1}
				b := api.Frame{ID: id<<18 | low, Ext: true, Remote: kinds&2 == 2}
				if !frame.Before(a, b) || frame.Before(b, a) {
					t.Fatalf("%v does not win against %v", a, b)
				}
			}
		}
	}
}

// The chapter's examples.
func TestExamples(t *testing.T) {
	f := api.Frame{ID: 0x123, Dlc: 1, Data: []byte{0xaa}}
	l, e := frame.Body(f)
	if e != api.OK || len(l) != 42 || rows.Text(l[:27]) != "dddrddrdddrrddddddrrdrdrdrd" {
		t.Errorf("Body is %q, error %d", rows.Text(l), e)
	}
	if many, known := frame.Head(l[:18]); many != 0 || known {
		t.Errorf("Head of 18 bits is %d, %v", many, known)
	}
	if many, known := frame.Head(l[:19]); many != 42 || !known {
		t.Errorf("Head of 19 bits is %d, %v", many, known)
	}
	l, e = frame.Body(api.Frame{Ext: true, Remote: true, Dlc: 8})
	if e != api.OK || len(l) != 54 {
		t.Errorf("an extended remote frame has %d bits, error %d", len(l), e)
	}
	if frame.Right(api.Frame{ID: 1 << 11}) {
		t.Error("the ID 2^11 in a base frame is right")
	}
	if !frame.Before(api.Frame{ID: 1}, api.Frame{ID: 2}) || !frame.Before(api.Frame{ID: 1}, api.Frame{ID: 1 << 18, Ext: true}) {
		t.Error("Before is false")
	}
}
