package bits_test

import (
	"bytes"
	"math"
	"slices"
	"testing"

	"jackstay/bits"
	"jackstay/rows"
)

// The rules that hold everywhere, R1 to R7, as far as they touch this layer. It
// has no errors (R2), no objects (R5) and no texts (R7).

// R1, R7: counts that are none, or too great, have a result; no call panics.
func TestEveryCallReturns(t *testing.T) {
	for _, n := range []uint32{0, 1, math.MaxUint32} {
		for _, many := range []int{math.MinInt, math.MinInt + 1, math.MinInt32, -1, 0} {
			if l := bits.Of(n, many); len(l) != 0 {
				t.Errorf("Of(%d, %d) is %v", n, many, l)
			}
		}
		for _, many := range []int{65, math.MaxInt32, math.MaxInt - 1, math.MaxInt} {
			if l := bits.Of(n, many); len(l) != 64 {
				t.Errorf("Of(%d, %d) has %d bits", n, many, len(l))
			}
		}
	}
	for long := range 200 {
		l := make([]bool, long)
		bits.Number(l)
		bits.Bus(l)
		if b := bits.Bytes(l); len(b) != long/8 {
			t.Errorf("%d bits have %d bytes", long, len(b))
		}
		if got := bits.OfBytes(make([]byte, long)); len(got) != 8*long {
			t.Errorf("%d bytes have %d bits", long, len(got))
		}
	}
}

// R1: long arguments are as good as short ones.
func TestLongArguments(t *testing.T) {
	b := bytes.Repeat([]byte{0xc3, 0x00, 0x7e}, 1<<17)
	l := bits.OfBytes(b)
	if len(l) != 8*len(b) || !bytes.Equal(bits.Bytes(l), b) {
		t.Error("long bytes do not survive")
	}
	if n := bits.Number(l); n != 0x7ec3007e {
		t.Errorf("the last 32 bits are %#x", n)
	}
	drives := slices.Repeat([]bool{true}, 1<<20)
	if !bits.Bus(drives) {
		t.Error("all are recessive, and the bus is dominant")
	}
	drives[len(drives)-1] = false
	if bits.Bus(drives) {
		t.Error("the last one is dominant, and the bus is recessive")
	}
}

// R3: the bits of an argument, and those behind its end, stay as they are.
func TestBitsStayAsTheyAre(t *testing.T) {
	for _, long := range []int{0, 1, 7, 8, 9, 31, 32, 33, 40} {
		for _, behind := range []bool{true, false} {
			whole := make([]bool, long, long+64)
			for i := range whole {
				whole[i] = i%3 == 0
			}
			for range 64 {
				whole = append(whole, behind)
			}
			before := slices.Clone(whole)
			l := whole[:long]
			bits.Number(l)
			bits.Bytes(l)
			bits.Bus(l)
			if !slices.Equal(whole, before) {
				t.Errorf("%d bits have changed", long)
			}
		}
	}
}

// R3: so do the bytes.
func TestBytesStayAsTheyAre(t *testing.T) {
	whole := []byte("abcdefghijklmnopqrstuvwxyz")
	for long := range len(whole) {
		bits.OfBytes(whole[:long])
		if string(whole) != "abcdefghijklmnopqrstuvwxyz" {
			t.Fatalf("%d bytes have changed: %q", long, whole)
		}
	}
}

// R3: a result shares no memory with another one, in its spare capacity neither.
func TestResultsAreNew(t *testing.T) {
	b := []byte{0x0f, 0xa5}
	l := bits.OfBytes(b)
	for name, call := range map[string]func() []bool{
		"Of":        func() []bool { return bits.Of(0x0fa5, 16) },
		"Of, short": func() []bool { return bits.Of(1, 1) },
		"Of, long":  func() []bool { return bits.Of(0x0fa5, 64) },
		"OfBytes":   func() []bool { return bits.OfBytes(b) },
	} {
		first, second := call(), call()
		want := slices.Clone(second)
		rows.Turn(first[:cap(first)])
		if !slices.Equal(second, want) || !slices.Equal(call(), want) {
			t.Errorf("results of %s share memory", name)
		}
	}
	first, second := bits.Bytes(l), bits.Bytes(l)
	clear(first[:cap(first)])
	if !bytes.Equal(second, b) || !bytes.Equal(bits.Bytes(l), b) {
		t.Error("results of Bytes share memory")
	}
}

// R3: what is changed in an argument later on changes no result.
func TestArgumentsAreNotKept(t *testing.T) {
	b := []byte{0x0f, 0xa5}
	l := bits.OfBytes(b)
	got := bits.Bytes(l)
	clear(b)
	if !slices.Equal(l, bits.OfBytes([]byte{0x0f, 0xa5})) {
		t.Error("OfBytes keeps its argument")
	}
	rows.Turn(l)
	if !bytes.Equal(got, []byte{0x0f, 0xa5}) {
		t.Error("Bytes keeps its argument")
	}
}

// R4: a call's results hang on its arguments alone, not on the calls before it.
func TestResultsHangOnArgumentsAlone(t *testing.T) {
	l := rows.Of("rrdrdddrrd")
	for round := range 3 {
		if s := rows.Text(bits.Of(0x5a, 8)); s != "drdrrdrd" {
			t.Errorf("round %d: Of is %q", round, s)
		}
		if s := rows.Text(bits.OfBytes([]byte{0x5a})); s != "drdrrdrd" {
			t.Errorf("round %d: OfBytes is %q", round, s)
		}
		if n := bits.Number(l); n != 0x346 {
			t.Errorf("round %d: Number is %#x", round, n)
		}
		if b := bits.Bytes(l); !bytes.Equal(b, []byte{0xd1}) {
			t.Errorf("round %d: Bytes is %x", round, b)
		}
		if bits.Bus(l) || !bits.Bus(l[:2]) {
			t.Errorf("round %d: Bus is another one", round)
		}
		bits.Of(math.MaxUint32, 64)
		bits.Number(slices.Repeat([]bool{true}, 100))
		bits.Bus([]bool{round == 1})
	}
}

// R4: nor on a capacity.
func TestCapacityDoesNotMatter(t *testing.T) {
	whole := slices.Repeat([]bool{false}, 64)
	copy(whole, rows.Of("rrrrrrrrr"))
	for _, l := range [][]bool{whole[:9], whole[:9:9]} {
		if bits.Number(l) != 0x1ff || !bits.Bus(l) || !bytes.Equal(bits.Bytes(l), []byte{0xff}) {
			t.Errorf("with the capacity %d the results are others", cap(l))
		}
	}
}

// R6: an empty slice is as good as nil.
func TestEmptyIsNil(t *testing.T) {
	spare := make([]bool, 0, 16)
	for _, l := range [][]bool{nil, {}, spare} {
		if bits.Number(l) != 0 || len(bits.Bytes(l)) != 0 || !bits.Bus(l) {
			t.Errorf("no bits, nil %v, are something", l == nil)
		}
	}
	for _, b := range [][]byte{nil, {}, make([]byte, 0, 16)} {
		if len(bits.OfBytes(b)) != 0 {
			t.Errorf("no bytes, nil %v, have bits", b == nil)
		}
	}
}
