package take_test

import (
	"slices"
	"strings"
	"testing"

	"jackstay/api"
	"jackstay/crc"
	"jackstay/frame"
	"jackstay/rows"
	"jackstay/samples"
	"jackstay/stuff"
	"jackstay/take"
)

// letters are those of what bits say, by their numbers: more, stuff, form, (check) sum,
// got, late, over.
const letters = "msfcglo"

// readOn reads the bits of s, and tells what they say by letters.
func readOn(t api.Taking, s string) (api.Taking, string) {
	var out strings.Builder
	for _, bit := range rows.Of(s) {
		next, said := take.Next(t, bit)
		out.WriteByte(letters[said])
		t = next
	}
	return t, out.String()
}

// read reads the bits of s from a frame's start on.
func read(s string) (api.Taking, string) { return readOn(api.Taking{}, s) }

// same reports whether two states are; no bits are as good as nil.
func same(a, b api.Taking) bool {
	return a.Row == b.Row && slices.Equal(a.Bits, b.Bits) && a.Place == b.Place && a.Fits == b.Fits
}

// alike reports whether the last many bits of s are equal.
func alike(s string, many int) bool {
	return strings.HasSuffix(s, strings.Repeat("d", many)) || strings.HasSuffix(s, strings.Repeat("r", many))
}

// run is the run at the end of s, which has no six equal bits.
func run(s string) api.Alike {
	many := uint8(0)
	for many < 5 && int(many) < len(s) && alike(s, int(many)+1) {
		many++
	}
	return api.Alike{Last: strings.HasSuffix(s, "r"), Many: many}
}

// reading is what a row comes to that is read from a frame's start on, told by whole
// rows: what of it is read in the body, with the stuff bits, and what comes behind;
// whether that is behind a complete body, and not from a sixth equal bit on; and the
// body's plain bits, and whether they are all of it, with a check sum that fits.
type reading struct {
	body, rest string
	closed     bool
	plain      []bool
	fits       bool
}

// readingOf returns what s comes to.
func readingOf(s string) reading {
	r := reading{body: s}
	for i := range len(s) + 1 {
		if alike(s[:i], 6) {
			r = reading{body: s[:i-1], rest: s[i-1:]}
			break
		}
		plain, _ := stuff.Take(rows.Of(s[:i]))
		if many, known := frame.Head(plain); known && len(plain) == many && !alike(s[:i], 5) {
			r = reading{body: s[:i], rest: s[i:], closed: true}
			break
		}
	}
	r.plain, _ = stuff.Take(rows.Of(r.body))
	_, e := frame.Parse(r.plain)
	r.fits = e == api.OK
	return r
}

// said is what all bits should say.
func (r reading) said() string {
	body := strings.Repeat("m", len(r.body))
	switch {
	case r.closed:
		return body + closing(r.rest, r.fits)
	case r.rest != "":
		return body + "s" + strings.Repeat("o", len(r.rest)-1)
	}
	return body
}

// state is what the state behind all bits should be.
func (r reading) state() api.Taking {
	t := api.Taking{Row: run(r.body), Bits: r.plain, Fits: r.fits}
	switch {
	case !r.closed && r.rest == "":
		t.Place = api.PlaceBody
	case !r.closed || strings.ContainsAny(closing(r.rest, r.fits), "fc"):
		t.Place = api.PlaceOver
	default:
		t.Place = uint8(min(1+len(r.rest), 11))
	}
	return t
}

// closing is what bits behind a body should say.
func closing(s string, fits bool) string {
	recessive, dominant := "mmmmmmmmgo", "fmfffffffl"
	if !fits {
		recessive = "mmc"
	}
	out := ""
	for i := range len(s) {
		switch {
		case i >= 10 || strings.ContainsAny(out, "fc"):
			out += "o"
		case s[i] == 'r':
			out += recessive[i : i+1]
		default:
			out += dominant[i : i+1]
		}
	}
	return out
}

// check reads s, and holds what its bits say, and the state behind them, to what they
// should be.
func check(t *testing.T, s string) {
	t.Helper()
	want := readingOf(s)
	got, said := read(s)
	if said != want.said() {
		t.Fatalf("%q says %q, not %q", s, said, want.said())
	}
	checkState(t, s, got, want)
}

// checkState holds a state to what it should be.
func checkState(t *testing.T, s string, got api.Taking, want reading) {
	t.Helper()
	if !same(got, want.state()) {
		t.Fatalf("behind %q it is %v, not %v", s, got, want.state())
	}
	acks := want.closed && want.fits && len(want.rest) == 1 && want.rest == "r"
	if take.Drive(got) == acks {
		t.Fatalf("behind %q Drive is %v", s, !acks)
	}
	f, ok := take.Frame(got)
	parsed, _ := frame.Parse(want.plain)
	if ok != (want.closed && want.fits) || ok && !samples.Same(f, parsed) || !ok && !samples.Same(f, api.Frame{}) {
		t.Fatalf("behind %q Frame is %v, %v", s, f, ok)
	}
}

// stuffed are the bits of a body on the wire.
func stuffed(body []bool) string { return rows.Text(stuff.Put(body)) }

// owing are right frames with a stuff bit behind the body: it is recessive behind some,
// and dominant behind the others.
func owing(t *testing.T) []api.Frame {
	t.Helper()
	var l []api.Frame
	met := map[byte]int{}
	for id := range uint32(1 << 11) {
		f := samples.Made(id, id%3 == 0, id%5 == 0, uint8(id%16))
		body, _ := frame.Body(f)
		if s := stuffed(body); alike(s[:len(s)-1], 5) {
			met[s[len(s)-1]]++
			l = append(l, f)
		}
	}
	if met['d'] < 10 || met['r'] < 10 {
		t.Fatalf("of such frames there are too few: %v", met)
	}
	return l
}

// P7.1

func TestNext(t *testing.T) {
	// The body of ID 1 on the wire, all but its last bit, and all of it.
	const most, all = "dddddrdddddrdrdddddrdddrdddrddddrddr", "dddddrdddddrdrdddddrdddrdddrddddrddrr"
	m := strings.Repeat("m", len(all))
	for _, x := range []struct {
		s, said string
		row     string
		plain   int // bits of the body
		place   uint8
		fits    bool
	}{
		{"", "", "", 0, api.PlaceBody, false},
		{"d", "m", "d", 1, api.PlaceBody, false},
		{"r", "m", "r", 1, api.PlaceBody, false},
		{"ddddd", "mmmmm", "ddddd", 5, api.PlaceBody, false},
		{"dddddr", "mmmmmm", "r", 5, api.PlaceBody, false},
		{"dddddrr", "mmmmmmm", "rr", 6, api.PlaceBody, false},
		// A sixth equal bit.
		{"dddddd", "mmmmms", "ddddd", 5, api.PlaceOver, false},
		{"ddddddr", "mmmmmso", "ddddd", 5, api.PlaceOver, false},
		{"drrrrrr", "mmmmmms", "rrrrr", 6, api.PlaceOver, false},
		{"dddddrrrrrr", "mmmmmmmmmms", "rrrrr", 9, api.PlaceOver, false},
		// Bit by bit behind the body, each of both kinds.
		{most, m[1:], "r", 33, api.PlaceBody, false},
		{all, m, "rr", 34, api.PlaceSum, true},
		{all + "r", m + "m", "rr", 34, api.PlaceAck, true},
		{all + "d", m + "f", "rr", 34, api.PlaceOver, true},
		{all + "rr", m + "mm", "rr", 34, api.PlaceDone, true},
		{all + "rd", m + "mm", "rr", 34, api.PlaceDone, true},
		{all + "rdr", m + "mmm", "rr", 34, api.PlaceEnd, true},
		{all + "rdd", m + "mmf", "rr", 34, api.PlaceOver, true},
		{all + "rdrr", m + "mmmm", "rr", 34, 5, true},
		{all + "rdrd", m + "mmmf", "rr", 34, api.PlaceOver, true},
		{all + "rdrrr", m + "mmmmm", "rr", 34, 6, true},
		{all + "rdrrd", m + "mmmmf", "rr", 34, api.PlaceOver, true},
		{all + "rdrrrrrr", m + "mmmmmmmm", "rr", 34, 9, true},
		{all + "rdrrrrrd", m + "mmmmmmmf", "rr", 34, api.PlaceOver, true},
		{all + "rdrrrrrrr", m + "mmmmmmmmg", "rr", 34, 10, true},
		{all + "rdrrrrrrd", m + "mmmmmmmmf", "rr", 34, api.PlaceOver, true},
		{all + "rdrrrrrrrr", m + "mmmmmmmmgo", "rr", 34, api.PlaceOver, true},
		{all + "rdrrrrrrrd", m + "mmmmmmmmgl", "rr", 34, api.PlaceOver, true},
		{all + "rdrrrrrrrrr", m + "mmmmmmmmgoo", "rr", 34, api.PlaceOver, true},
		{all + "rdrrrrrrrdd", m + "mmmmmmmmglo", "rr", 34, api.PlaceOver, true},
		// With a check sum that does not fit.
		{most + "d", m, "d", 34, api.PlaceSum, false},
		{most + "dr", m + "m", "d", 34, api.PlaceAck, false},
		{most + "drr", m + "mm", "d", 34, api.PlaceDone, false},
		{most + "drd", m + "mm", "d", 34, api.PlaceDone, false},
		{most + "drrr", m + "mmc", "d", 34, api.PlaceOver, false},
		{most + "drrd", m + "mmf", "d", 34, api.PlaceOver, false},
		{most + "drrrr", m + "mmco", "d", 34, api.PlaceOver, false},
	} {
		got, said := read(x.s)
		plain, _ := stuff.Take(rows.Of(x.s))
		want := api.Taking{Row: run(x.row), Bits: plain[:x.plain], Place: x.place, Fits: x.fits}
		if said != x.said || !same(got, want) {
			t.Errorf("%q says %q, and is %v, not %q, %v", x.s, said, got, x.said, want)
		}
	}
}

func TestNextOfAllShortRows(t *testing.T) {
	for s := range rows.UpTo(14) {
		check(t, s)
	}
}

// All that may come behind a body: one that fits, one that does not, one with a stuff
// bit behind it.
func TestNextOfAllClosings(t *testing.T) {
	for _, f := range []api.Frame{{ID: 1}, {ID: 9}, {ID: 0x17}, {ID: 5, Ext: true, Remote: true, Dlc: 8}} {
		body, _ := frame.Body(f)
		for range 2 {
			s := stuffed(body)
			t0, said := read(s)
			if strings.Trim(said, "m") != "" || t0.Place != api.PlaceSum {
				t.Fatalf("%q says %q, and is %v", s, said, t0)
			}
			want := readingOf(s)
			for rest := range rows.UpTo(12) {
				got, said := readOn(t0, rest)
				if want.rest = rest; len(s)+len(rest) != len(want.said()) || want.said()[len(s):] != said {
					t.Fatalf("behind %q, %q says %q, not %q", s, rest, said, want.said()[len(s):])
				}
				checkState(t, s+rest, got, want)
			}
			// Now with a check sum that is another one.
			body[len(body)-2] = !body[len(body)-2]
		}
	}
}

// The states of frames of all kinds, behind each of their bits.
func TestNextOfManyFrames(t *testing.T) {
	for i, f := range samples.Right() {
		s := samples.Wire(f)
		if i%2 == 0 {
			s = rows.Turned(s, len(s)-9)
		}
		s += "drr"
		want := readingOf(s)
		var got api.Taking
		for k := range len(s) {
			got, _ = readOn(got, s[k:k+1])
			if behind := k + 1 - len(want.body); behind >= 0 {
				part := want
				part.rest = s[len(want.body) : k+1]
				checkState(t, s[:k+1], got, part)
				continue
			}
			checkState(t, s[:k+1], got, readingOf(s[:k+1]))
		}
	}
}

// A stuff bit that is due behind a body: the body is complete, and not over.
func TestStuffBitBehindTheBody(t *testing.T) {
	for _, f := range owing(t) {
		body, _ := frame.Body(f)
		s := stuffed(body)
		ahead, due := s[:len(s)-1], s[len(s)-1:]
		got, said := read(ahead)
		if strings.Trim(said, "m") != "" || got.Place != api.PlaceBody || got.Row != run(ahead) || !slices.Equal(got.Bits, body) || !got.Fits {
			t.Fatalf("ahead of the stuff bit %v says %q, and is %v", f, said, got)
		}
		if none, ok := take.Frame(got); ok || !samples.Same(none, api.Frame{}) || !take.Drive(got) {
			t.Fatalf("ahead of the stuff bit Frame is %v, %v", none, ok)
		}
		// It comes.
		next, said := readOn(got, due)
		if said != "m" || next.Place != api.PlaceSum || next.Row != run(due) || !slices.Equal(next.Bits, body) || !next.Fits {
			t.Fatalf("with the stuff bit %v says %q, and is %v", f, said, next)
		}
		if whole, ok := take.Frame(next); !ok || !samples.Same(whole, f) {
			t.Fatalf("with the stuff bit Frame is %v, %v", whole, ok)
		}
		// The other kind comes: the rest stays as it was.
		next, said = readOn(got, ahead[len(ahead)-1:])
		got.Place = api.PlaceOver
		if said != "s" || !same(next, got) {
			t.Fatalf("without the stuff bit %v says %q, and is %v", f, said, next)
		}
		if none, ok := take.Frame(next); ok || !samples.Same(none, api.Frame{}) {
			t.Fatalf("without the stuff bit Frame is %v, %v", none, ok)
		}
	}
}

// The same behind a body whose check sum does not fit.
func TestStuffBitBehindOtherCheckSums(t *testing.T) {
	met := 0
	for id := range uint32(1 << 11) {
		body, _ := frame.Body(api.Frame{ID: id})
		body[22] = !body[22]
		s := stuffed(body)
		if !alike(s[:len(s)-1], 5) {
			continue
		}
		met++
		check(t, s[:len(s)-1])
		for _, rest := range []string{"", "r", "rr", "rd", "rrr", "rdr", "rrd", "rdrr", "d"} {
			check(t, s+rest)
		}
		check(t, rows.Turned(s, len(s)-1)+"rrrrrrrrrr")
	}
	if met < 10 {
		t.Errorf("of such frames there are %d", met)
	}
}

// A check sum that does not fit is told behind the acknowledgement, and not before.
func TestCheckSumsThatDoNotFit(t *testing.T) {
	for _, f := range samples.Some() {
		body, _ := frame.Body(f)
		for place := len(body) - 15; place < len(body); place++ {
			other := slices.Clone(body)
			other[place] = !other[place]
			s := stuffed(other)
			for _, ack := range []string{"r", "d"} {
				got, said := read(s + "r" + ack + "rrrrrrrr")
				if want := strings.Repeat("m", len(s)+2) + "cooooooo"; said != want {
					t.Fatalf("%v with bit %d of its body inverted says %q, not %q", f, place, said, want)
				}
				if got.Place != api.PlaceOver || got.Fits || !slices.Equal(got.Bits, other) || got.Row != run(s) {
					t.Fatalf("%v with bit %d of its body inverted is %v", f, place, got)
				}
			}
			// A bit that should be recessive is told first, at the same place too.
			for rest, want := range map[string]string{"d": "f", "rrd": "mmf", "rdd": "mmf"} {
				if _, said := read(s + rest); said != strings.Repeat("m", len(s))+want {
					t.Fatalf("%v with bit %d of its body inverted, and %q, says %q", f, place, rest, said)
				}
			}
		}
	}
}

func TestAllCheckSums(t *testing.T) {
	f := api.Frame{ID: 0x123, Dlc: 1, Data: []byte{0xaa}}
	whole, _ := frame.Body(f)
	for sum := range 1 << 15 {
		body := slices.Clone(whole[:27])
		for i := range 15 {
			body = append(body, sum>>(14-i)&1 == 1)
		}
		s := stuffed(body)
		got, said := read(s + "rdr")
		last := "c"
		if slices.Equal(body, whole) {
			last = "m"
		}
		if said != strings.Repeat("m", len(s)+2)+last || got.Fits != (last == "m") {
			t.Fatalf("with the sum %#x %v says %q, and is %v", sum, f, said, got)
		}
	}
}

// What is behind all, and places that are none, stay as they are.
func TestOver(t *testing.T) {
	body, _ := frame.Body(api.Frame{ID: 1})
	for place := int(api.PlaceOver); place < 256; place++ {
		for _, l := range [][]bool{nil, rows.Of("drdr"), body} {
			for _, fits := range []bool{true, false} {
				for _, row := range []api.Alike{{}, run("rrr"), run("ddddd"), {Last: true, Many: 9}} {
					over := api.Taking{Row: row, Bits: l, Place: uint8(place), Fits: fits}
					if got, said := readOn(over, "drrd"); said != "oooo" || !same(got, over) {
						t.Fatalf("%v says %q, and becomes %v", over, said, got)
					}
				}
			}
		}
	}
}

// P7.2

func TestDrive(t *testing.T) {
	for _, f := range samples.Some() {
		s := samples.Wire(f)
		for long := range len(s) + 1 {
			got, _ := read(s[:long])
			if want := long != len(s)-9; take.Drive(got) != want {
				t.Fatalf("behind %d of the %d bits of %v Drive is %v", long, len(s), f, !want)
			}
		}
	}
}

func TestDriveHangsOnThePlaceAndTheCheckSum(t *testing.T) {
	body, _ := frame.Body(api.Frame{ID: 1})
	for place := range 256 {
		for _, fits := range []bool{true, false} {
			state := api.Taking{Row: run("rr"), Bits: body, Place: uint8(place), Fits: fits}
			if want := place != 2 || !fits; take.Drive(state) != want {
				t.Errorf("at the place %d, fits %v, Drive is %v", place, fits, !want)
			}
		}
	}
}

// P7.3

func TestFrame(t *testing.T) {
	for _, f := range samples.Some() {
		s := samples.Wire(f)
		for _, ack := range []string{"r", "d"} {
			s = s[:len(s)-9] + ack + s[len(s)-8:]
			for long := range len(s) + 1 {
				state, _ := read(s[:long])
				got, ok := take.Frame(state)
				if ok != (long >= len(s)-10) || ok && !samples.Same(got, f) || !ok && !samples.Same(got, api.Frame{}) {
					t.Fatalf("behind %d of the %d bits of %v Frame is %v, %v", long, len(s), f, got, ok)
				}
			}
		}
	}
}

func TestFrameHangsOnThePlaceAndTheCheckSum(t *testing.T) {
	f := api.Frame{ID: 0x123, Dlc: 1, Data: []byte{0xaa}}
	body, _ := frame.Body(f)
	for place := range 256 {
		for _, fits := range []bool{true, false} {
			state := api.Taking{Row: run("rr"), Bits: body, Place: uint8(place), Fits: fits}
			got, ok := take.Frame(state)
			if want := place != 0 && fits; ok != want || ok && !samples.Same(got, f) || !ok && !samples.Same(got, api.Frame{}) {
				t.Errorf("at the place %d, fits %v, Frame is %v, %v", place, fits, got, ok)
			}
		}
	}
}

// The fixed bits without a meaning may be of either kind.
func TestFrameWithOtherFixedBits(t *testing.T) {
	for _, x := range []struct {
		s    string
		want api.Frame
	}{
		{"d ddrddrdddrr d d r dddr rdrdrdrd", api.Frame{ID: 0x123, Dlc: 1, Data: []byte{0xaa}}},
		{"d ddrddrdddrr r d r rddr", api.Frame{ID: 0x123, Remote: true, Dlc: 9}},
		{"d ddddddddddr dr ddddddddddddddddrd d rr dddr drdrdrdr", api.Frame{ID: 1<<18 + 2, Ext: true, Dlc: 1, Data: []byte{0x55}}},
	} {
		body := rows.Of(strings.ReplaceAll(x.s, " ", ""))
		body = append(body, crc.Bits(crc.Sum(body))...)
		state, said := read(stuffed(body) + "rdrrrrrrrr")
		if got, ok := take.Frame(state); !ok || !samples.Same(got, x.want) || !strings.HasSuffix(said, "mgo") {
			t.Errorf("%q says %q; Frame is %v, %v", x.s, said, got, ok)
		}
	}
}

// A frame is read of bits that begin with a dominant one; others are never taken.
func TestFrameOfAFirstBitThatIsRecessive(t *testing.T) {
	for _, f := range samples.Some() {
		body, _ := frame.Body(f)
		body[0] = true
		body = append(body[:len(body)-15], crc.Bits(crc.Sum(body[:len(body)-15]))...)
		state, said := read(stuffed(body) + "rdrrrrrrrr")
		if got, ok := take.Frame(state); ok || !samples.Same(got, api.Frame{}) || !strings.HasSuffix(said, "mmcooooooo") {
			t.Errorf("%v, begun with a recessive bit, says %q; Frame is %v, %v", f, said, got, ok)
		}
	}
}

// P7.4

func TestRightFramesAreRead(t *testing.T) {
	for _, f := range append(samples.Right(), owing(t)...) {
		s := samples.Wire(f)
		for _, ack := range []int{0, 9} {
			if ack > 0 {
				s = rows.Turned(s, len(s)-ack)
			}
			state, said := read(s)
			if want := strings.Repeat("m", len(s)-2) + "go"; said != want {
				t.Fatalf("%q says %q", s, said)
			}
			if got, ok := take.Frame(state); !ok || !samples.Same(got, f) || state.Place != api.PlaceOver {
				t.Fatalf("of %v Frame is %v, %v", f, got, ok)
			}
		}
	}
}

func TestAllBaseIDsAreRead(t *testing.T) {
	for id := range uint32(1 << 11) {
		f := samples.Made(id, false, id%2 == 0, uint8(id%5))
		state, said := read(samples.Wire(f))
		if got, ok := take.Frame(state); !ok || !samples.Same(got, f) || !strings.HasSuffix(said, "mgo") {
			t.Fatalf("%v says %q; Frame is %v, %v", f, said, got, ok)
		}
	}
}

// One bit behind the body is inverted.
func TestInvertedBitsBehindTheBody(t *testing.T) {
	for _, f := range append(samples.Right(), owing(t)...) {
		s := samples.Wire(f)
		n := len(s)
		for place := n - 10; place < n; place++ {
			want := strings.Repeat("m", place) + "f" + strings.Repeat("o", n-1-place)
			switch place {
			case n - 9:
				want = strings.Repeat("m", n-2) + "go"
			case n - 1:
				want = strings.Repeat("m", n-2) + "gl"
			}
			if _, said := read(rows.Turned(s, place)); said != want {
				t.Fatalf("%v with bit %d of %d inverted says %q, not %q", f, place, n, said, want)
			}
		}
	}
}

// One bit of the body, or one of its stuff bits, is inverted: the frame is not taken.
func TestInvertedBitsOfTheBody(t *testing.T) {
	frames := append(samples.Some(), owing(t)...)
	for i, f := range frames {
		s := samples.Wire(f)
		for place := range len(s) - 10 {
			state, said := read(rows.Turned(s, place))
			got, ok := take.Frame(state)
			if samples.Same(got, f) && ok {
				t.Fatalf("%v with bit %d inverted is taken", f, place)
			}
			if strings.Contains(said, "g") && !ok {
				t.Fatalf("%v with bit %d inverted says %q; Frame is %v, %v", f, place, said, got, ok)
			}
			if i%7 == 0 {
				check(t, rows.Turned(s, place)+"rrrrrr")
			}
		}
	}
}

// Two bits are inverted, wherever they are.
func TestTwoInvertedBits(t *testing.T) {
	for _, f := range []api.Frame{{ID: 0x17}, {ID: 0x2a5, Remote: true, Dlc: 3}} {
		s := samples.Wire(f)
		for one := range len(s) {
			for other := range one {
				check(t, rows.Turned(rows.Turned(s, one), other))
			}
		}
	}
}

// The chapter's examples.
func TestExamples(t *testing.T) {
	s := samples.Wire(api.Frame{ID: 1})
	if _, said := read(s); said != strings.Repeat("m", len(s)-2)+"go" {
		t.Errorf("ID 1 says %q", said)
	}
	for long := range len(s) {
		if state, _ := read(s[:long]); take.Drive(state) != (long != len(s)-9) {
			t.Errorf("ahead of bit %d of %d Drive is %v", long, len(s), take.Drive(state))
		}
	}
	if _, said := read("dddddd"); said != "mmmmms" {
		t.Errorf("six dominant bits say %q", said)
	}
	if _, said := read(rows.Turned(s, len(s)-10)); said != strings.Repeat("m", len(s)-10)+"fooooooooo" {
		t.Errorf("a dominant delimiter of the check sum says %q", said)
	}
}
