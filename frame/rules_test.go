package frame_test

import (
	"math"
	"slices"
	"testing"

	"jackstay/api"
	"jackstay/bits"
	"jackstay/frame"
	"jackstay/rows"
	"jackstay/samples"
)

// The rules that hold everywhere, R1 to R7, as far as they touch this layer. It has
// no objects (R5), and no texts.

// R1, R2, R7: every row has a result, whatever it is; beside a false, and beside an
// error, the others are zero.
func TestEveryRowHasAResult(t *testing.T) {
	for s := range rows.UpTo(15) {
		checkRow(t, rows.Of(s))
	}
	for long := range 300 {
		for _, pattern := range []string{"d", "r", "dr", "drr", "ddrrr", "ddddddddddddddr", "drrrrrrrrrrrrr"} {
			l := slices.Repeat(rows.Of(pattern), long/len(pattern)+1)
			checkRow(t, l[:long])
		}
	}
}

// checkRow calls what takes rows.
func checkRow(t *testing.T, l []bool) {
	t.Helper()
	many, known := frame.Head(l)
	if known != (many != 0) || known && (many < 34 || many > 118) {
		t.Fatalf("Head(%q) is %d, %v", rows.Text(l), many, known)
	}
	f, e := frame.Parse(l)
	if e != api.OK && !samples.Same(f, api.Frame{}) {
		t.Fatalf("Parse(%q) is %v beside error %d", rows.Text(l), f, e)
	}
	if e == api.OK && (!frame.Right(f) || many != len(l)) {
		t.Fatalf("Parse(%q) is %v", rows.Text(l), f)
	}
}

// R1, R2, R7: every frame has a result, whatever it is.
func TestEveryFrameHasAResult(t *testing.T) {
	least := api.Frame{}
	for _, id := range []uint32{0, 1 << 11, 1 << 29, math.MaxUint32} {
		for dlc := range 256 {
			for kinds := range 4 {
				for _, many := range []int{0, 1, 8, 9, 1000} {
					f := api.Frame{ID: id, Ext: kinds&1 == 1, Remote: kinds&2 == 2, Dlc: uint8(dlc), Data: make([]byte, many)}
					right := frame.Right(f)
					if n := frame.Long(f); n < 0 || n > 8 {
						t.Fatalf("%v has %d bytes", f, n)
					}
					body, e := frame.Body(f)
					if (e == api.OK) != right || e != api.OK && body != nil {
						t.Fatalf("Body(%v) is %v, error %d", f, body, e)
					}
					wire, e := frame.Wire(f)
					if (e == api.OK) != right || e != api.OK && wire != nil {
						t.Fatalf("Wire(%v) is %v, error %d", f, wire, e)
					}
					if !right && (frame.Before(f, least) || frame.Before(least, f)) {
						t.Fatalf("%v is before another one, or that is before it", f)
					}
				}
			}
		}
	}
}

// R1: long rows and long data are refused like short ones.
func TestLongRows(t *testing.T) {
	l := make([]bool, 1<<20)
	if many, known := frame.Head(l); many != 34 || !known {
		t.Errorf("Head is %d, %v", many, known)
	}
	if f, e := frame.Parse(l); !samples.Same(f, api.Frame{}) || e != api.ErrBits {
		t.Errorf("Parse is %v, error %d", f, e)
	}
	f := api.Frame{Dlc: 15, Data: make([]byte, 1<<20)}
	if l, e := frame.Wire(f); l != nil || e != api.ErrFrame {
		t.Errorf("Wire is %v, error %d", l, e)
	}
}

// R3: bits and data of an argument, and what is behind their ends, stay as they are.
func TestArgumentsStayAsTheyAre(t *testing.T) {
	f := api.Frame{ID: 1, Ext: true, Dlc: 9, Data: samples.Data(8)}
	l := rows.Of(bodyOf(f))
	whole := append(slices.Clone(l), l...)
	before := slices.Clone(whole)
	for long := range len(whole) + 1 {
		frame.Head(whole[:long])
		frame.Parse(whole[:long])
		if !slices.Equal(whole, before) {
			t.Fatalf("%d bits have changed", long)
		}
	}
	room := samples.Data(11)
	f.Data = room[:8]
	frame.Right(f)
	frame.Long(f)
	frame.Body(f)
	frame.Wire(f)
	frame.Before(f, f)
	if !slices.Equal(room, samples.Data(11)) {
		t.Errorf("the data have become %v", room)
	}
}

// R3: a result shares no memory with another one, in its spare capacity neither, and
// is the same whatever becomes of the arguments.
func TestResultsAreNew(t *testing.T) {
	for name, call := range map[string]func(api.Frame) ([]bool, api.Errno){"Body": frame.Body, "Wire": frame.Wire} {
		for _, f := range samples.Right() {
			f.Data = slices.Clone(f.Data)
			one, _ := call(f)
			other, _ := call(f)
			want := rows.Text(other)
			rows.Turn(one[:cap(one)])
			clear(f.Data)
			if rows.Text(other) != want {
				t.Fatalf("results of %s share memory", name)
			}
		}
	}
	for _, f := range samples.Right() {
		l := rows.Of(bodyOf(f))
		one, _ := frame.Parse(l)
		other, _ := frame.Parse(l)
		clear(one.Data[:cap(one.Data)])
		rows.Turn(l)
		if !samples.Same(other, f) {
			t.Fatalf("results of Parse share memory: %v has become %v", f, other)
		}
	}
}

// R4: a call's results hang on its arguments alone, not on the calls before it.
func TestResultsHangOnArgumentsAlone(t *testing.T) {
	f := api.Frame{ID: 0x123, Dlc: 1, Data: []byte{0xaa}}
	want := bodyOf(f)
	for round := range 3 {
		for _, other := range samples.Wrong() {
			frame.Wire(other)
		}
		if s := body(t, f); s != want {
			t.Errorf("round %d: Body is %q", round, s)
		}
		frame.Parse(rows.Of(want[:41]))
		if got, e := frame.Parse(rows.Of(want)); !samples.Same(got, f) || e != api.OK {
			t.Errorf("round %d: Parse is %v, error %d", round, got, e)
		}
		if many, known := frame.Head(rows.Of(want[:19])); many != 42 || !known {
			t.Errorf("round %d: Head is %d, %v", round, many, known)
		}
		if !frame.Before(f, api.Frame{ID: 0x124}) {
			t.Errorf("round %d: Before is false", round)
		}
	}
}

// R4: nor on a capacity.
func TestCapacityDoesNotMatter(t *testing.T) {
	f := api.Frame{ID: 0x123, Dlc: 1, Data: []byte{0xaa}}
	whole := append(rows.Of(bodyOf(f)), bits.OfBytes(samples.Data(8))...)
	for _, l := range [][]bool{whole[:42], whole[:42:42]} {
		if got, e := frame.Parse(l); !samples.Same(got, f) || e != api.OK {
			t.Errorf("with the capacity %d Parse is %v, error %d", cap(l), got, e)
		}
		if many, known := frame.Head(l[:18]); many != 0 || known {
			t.Errorf("with the capacity %d Head is %d, %v", cap(l), many, known)
		}
	}
	room := samples.Data(11)
	room[0] = 0xaa
	f.Data = room[:1]
	if s := body(t, f); s != rows.Text(whole[:42]) {
		t.Errorf("with room behind its data Body is %q", s)
	}
}

// R6: no data are as good as nil, and so are no bits.
func TestEmptyIsNil(t *testing.T) {
	for _, has := range [][]byte{nil, {}, samples.Data(8)[:0]} {
		for _, f := range []api.Frame{{ID: 5, Data: has}, {ID: 5, Remote: true, Dlc: 8, Data: has}, {ID: 5, Ext: true, Data: has}} {
			if !frame.Right(f) {
				t.Errorf("%v, with data that are nil %v, is not right", f, has == nil)
			}
			s := body(t, f)
			if got, e := frame.Parse(rows.Of(s)); len(got.Data) != 0 || !samples.Same(got, f) || e != api.OK {
				t.Errorf("Parse is %v, error %d, not %v", got, e, f)
			}
		}
	}
	for _, l := range [][]bool{nil, {}, make([]bool, 0, 64)} {
		if many, known := frame.Head(l); many != 0 || known {
			t.Errorf("Head of no bits, nil %v, is %d, %v", l == nil, many, known)
		}
		if f, e := frame.Parse(l); !samples.Same(f, api.Frame{}) || e != api.ErrBits {
			t.Errorf("Parse of no bits, nil %v, is %v, error %d", l == nil, f, e)
		}
	}
}
