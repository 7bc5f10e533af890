package crc_test

import (
	"bytes"
	"math"
	"slices"
	"testing"

	"jackstay/bits"
	"jackstay/crc"
	"jackstay/rows"
)

// The rules that hold everywhere, R1 to R7, as far as they touch this layer. It
// has no errors, no false (R2), no objects (R5), and no indexes, counts or texts;
// numbers that are greater than a check sum are R7's wrong inputs.

// R1, R7: every number and bit has a result, which is no greater than a check sum.
func TestEveryNumberHasAResult(t *testing.T) {
	for n := range math.MaxUint16 + 1 {
		for _, bit := range []bool{true, false} {
			if sum := crc.Next(uint16(n), bit); sum >= sums {
				t.Fatalf("Next(%#x, %v) is %#x", n, bit, sum)
			}
		}
		if l := crc.Bits(uint16(n)); len(l) != 15 {
			t.Fatalf("Bits(%#x) are %d", n, len(l))
		}
	}
}

// R1: long rows are as good as short ones.
func TestLongRows(t *testing.T) {
	l := bits.OfBytes(bytes.Repeat([]byte("a long row "), 1<<14))
	sum := crc.Sum(l)
	if want := rest(l); sum != want {
		t.Errorf("Sum of %d bits is %#x, not %#x", len(l), sum, want)
	}
	if got := crc.Sum(append(l, crc.Bits(sum)...)); got != 0 {
		t.Errorf("Sum of %d bits and the bits of their sum is %#x", len(l), got)
	}
	if got := crc.Sum(make([]bool, 1<<20)); got != 0 {
		t.Errorf("Sum of dominant bits is %#x", got)
	}
}

// R3: the bits of an argument, and those behind its end, stay as they are.
func TestBitsStayAsTheyAre(t *testing.T) {
	whole := body()
	before := slices.Clone(whole)
	for long := range len(whole) + 1 {
		crc.Sum(whole[:long])
		if !slices.Equal(whole, before) {
			t.Fatalf("%d bits have changed", long)
		}
	}
}

// R3: a result shares no memory with another one, in its spare capacity neither.
func TestResultsAreNew(t *testing.T) {
	for _, sum := range []uint16{0, 1, 0x4599, 0x7fff, 0xffff} {
		first, second := crc.Bits(sum), crc.Bits(sum)
		want := slices.Clone(second)
		rows.Turn(first[:cap(first)])
		if !slices.Equal(second, want) || !slices.Equal(crc.Bits(sum), want) {
			t.Errorf("results of Bits(%#x) share memory", sum)
		}
	}
}

// R3, R4: a sum hangs on what the bits are when it is asked for, not on what the
// same slice held before.
func TestArgumentsAreNotKept(t *testing.T) {
	l := rows.Of("rrd")
	if sum := crc.Sum(l); sum != 0x1664 {
		t.Errorf("Sum is %#x", sum)
	}
	clear(l)
	if sum := crc.Sum(l); sum != 0 {
		t.Errorf("Sum of what was changed is %#x", sum)
	}
}

// R4: a call's results hang on its arguments alone, not on the calls before it.
func TestResultsHangOnArgumentsAlone(t *testing.T) {
	for round := range 3 {
		if sum := crc.Next(0x2000, true); sum != 0x0599 {
			t.Errorf("round %d: Next is %#x", round, sum)
		}
		if sum := crc.Sum(rows.Of("rd")); sum != 0x4eab {
			t.Errorf("round %d: Sum is %#x", round, sum)
		}
		if s := rows.Text(crc.Bits(0x4eab)); s != "rddrrrdrdrdrdrr" {
			t.Errorf("round %d: Bits is %q", round, s)
		}
	}
}

// R4: nor on a capacity.
func TestCapacityDoesNotMatter(t *testing.T) {
	whole := rows.Of("rdrrrrrr")
	for _, l := range [][]bool{whole[:2], whole[:2:2]} {
		if sum := crc.Sum(l); sum != 0x4eab {
			t.Errorf("with the capacity %d Sum is %#x", cap(l), sum)
		}
	}
}

// R6: an empty slice is as good as nil.
func TestEmptyIsNil(t *testing.T) {
	for _, l := range [][]bool{nil, {}, make([]bool, 0, 16), body()[:0]} {
		if sum := crc.Sum(l); sum != 0 {
			t.Errorf("Sum of no bits, nil %v, is %#x", l == nil, sum)
		}
	}
}
