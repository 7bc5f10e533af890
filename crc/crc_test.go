package crc_test

import (
	"slices"
	"strings"
	"testing"

	"jackstay/bits"
	"jackstay/crc"
	"jackstay/rows"
)

const (
	sums     = 1 << 15 // check sums that there are
	short    = 12      // bits of short rows
	longest  = 118     // bits of the longest body of a frame
	polyText = "rdddrdrrddrrddr"
)

// body is a row as long as the longest body of a frame.
func body() []bool {
	l := bits.OfBytes([]byte("wired and bits!"))
	return l[:longest]
}

// after tells the check sum, a text of 15 bits, after one more bit.
func after(sum string, bit bool) string {
	next := []byte(sum[1:] + "d")
	if (sum[0] == 'r') == bit {
		return string(next)
	}
	for i := range next {
		if polyText[i] == 'd' {
			continue
		}
		if next[i] == 'r' {
			next[i] = 'd'
		} else {
			next[i] = 'r'
		}
	}
	return string(next)
}

// rest is the check sum of l by a long division: what is left of l, and 15 dominant
// bits, when the polynomial is taken away below each recessive bit of l.
func rest(l []bool) uint16 {
	row := append(slices.Clone(l), make([]bool, 15)...)
	poly := rows.Of("r" + polyText)
	for i := range l {
		if row[i] {
			turnWhere(row[i:], poly)
		}
	}
	return uint16(bits.Number(row[len(l):]))
}

// turnWhere inverts the bits of l where those of which are recessive.
func turnWhere(l, which []bool) {
	for i, turn := range which {
		l[i] = l[i] != turn
	}
}

// turned is l with the bits at those places inverted.
func turned(l []bool, places ...int) []bool {
	l = slices.Clone(l)
	for _, i := range places {
		l[i] = !l[i]
	}
	return l
}

// P3.1

func TestNext(t *testing.T) {
	for _, x := range []struct {
		sum  uint16
		bit  bool
		want uint16
	}{
		{0, false, 0},
		{0, true, 0x4599},
		{1, false, 2},
		{1, true, 0x459b},
		{0x2000, false, 0x4000},
		{0x2000, true, 0x0599},
		{0x3fff, false, 0x7ffe},
		{0x3fff, true, 0x3a67},
		// The highest bit is set: it is cut off, and the recessive bit is the equal one.
		{0x4000, true, 0},
		{0x4000, false, 0x4599},
		{0x4001, true, 2},
		{0x4001, false, 0x459b},
		{0x4599, true, 0x0b32},
		{0x4599, false, 0x4eab},
		{0x7fff, true, 0x7ffe},
		{0x7fff, false, 0x3a67},
	} {
		if sum := crc.Next(x.sum, x.bit); sum != x.want {
			t.Errorf("Next(%#x, %v) is %#x, not %#x", x.sum, x.bit, sum, x.want)
		}
	}
}

func TestNextOfAllSums(t *testing.T) {
	for sum := range uint16(sums) {
		for _, bit := range []bool{true, false} {
			want := after(rows.Text(bits.Of(uint32(sum), 15)), bit)
			if got := rows.Text(bits.Of(uint32(crc.Next(sum, bit)), 16)); got != "d"+want {
				t.Fatalf("Next(%#x, %v) is %q, not %q", sum, bit, got, want)
			}
		}
	}
}

// Of a number that is greater than 15 bits the lowest 15 count.
func TestNextOfGreaterNumbers(t *testing.T) {
	for sum := range uint16(sums) {
		for _, bit := range []bool{true, false} {
			want := crc.Next(sum, bit)
			if got := crc.Next(sum|sums, bit); got != want {
				t.Fatalf("Next(%#x, %v) is %#x, not %#x", sum|sums, bit, got, want)
			}
		}
	}
}

func TestSum(t *testing.T) {
	for _, x := range []struct {
		l    string
		want uint16
	}{
		{"", 0},
		{"d", 0},
		{"r", 0x4599},
		{"rr", 0x0b32},
		{"rd", 0x4eab},
		{"dr", 0x4599},
		{"rrdddrdrrddrrddr", 0},
		// The body of the base frame 0x123 with the byte 0xaa.
		{"dddrddrdddrrddddddrrdrdrdrd", 0x23f6},
	} {
		if sum := crc.Sum(rows.Of(x.l)); sum != x.want {
			t.Errorf("Sum(%q) is %#x, not %#x", x.l, sum, x.want)
		}
	}
}

func TestSumOfBytes(t *testing.T) {
	for _, x := range []struct {
		b    string
		want uint16
	}{
		{"123456789", 0x059e},
		{"\x00", 0},
		{"\x01", 0x4599},
		{"\x80", 0x2213},
		{"\xff", 0x0095},
		{"\xff\xff\xff\xff\xff\xff\xff\xff", 0x66ca},
		{"\xa5\x01", 0x0b48},
		{"a", 0x6d72},
		{"jackstay", 0x5cc8},
	} {
		if sum := crc.Sum(bits.OfBytes([]byte(x.b))); sum != x.want {
			t.Errorf("Sum of the bits of %q is %#x, not %#x", x.b, sum, x.want)
		}
	}
}

// Dominant bits ahead say nothing.
func TestDominantBitsAhead(t *testing.T) {
	for _, s := range []string{"", "r", "rdr", "ddrrdrdrdrrrr", strings.Repeat("rdd", 30)} {
		want := crc.Sum(rows.Of(s))
		for ahead := range 40 {
			if sum := crc.Sum(rows.Of(strings.Repeat("d", ahead) + s)); sum != want {
				t.Errorf("with %d dominant bits ahead Sum(%q) is %#x, not %#x", ahead, s, sum, want)
			}
		}
	}
}

func TestSumOfAllShortRows(t *testing.T) {
	for s := range rows.UpTo(short) {
		l := rows.Of(s)
		sum := crc.Sum(l)
		if want := rest(l); sum != want {
			t.Fatalf("Sum(%q) is %#x, not %#x", s, sum, want)
		}
		for _, bit := range []bool{true, false} {
			if got, want := crc.Next(sum, bit), crc.Sum(append(l, bit)); got != want {
				t.Fatalf("after %q and %v the sum is %#x, not %#x", s, bit, got, want)
			}
		}
	}
}

func TestSumOfLongerRows(t *testing.T) {
	for long := range longest + 1 {
		l := body()[:long]
		next := uint16(0)
		for _, bit := range l {
			next = crc.Next(next, bit)
		}
		if sum, want := crc.Sum(l), rest(l); sum != want || next != want {
			t.Fatalf("Sum of %d bits is %#x, and bit by bit %#x, not %#x", long, sum, next, want)
		}
	}
}

func TestBits(t *testing.T) {
	for _, x := range []struct {
		sum  uint16
		want string
	}{
		{0, "ddddddddddddddd"},
		{1, "ddddddddddddddr"},
		{0x4000, "rdddddddddddddd"},
		{0x3fff, "drrrrrrrrrrrrrr"},
		{0x4599, "rdddrdrrddrrddr"},
		{0x7fff, "rrrrrrrrrrrrrrr"},
		// Numbers that are greater than 15 bits.
		{0x8000, "ddddddddddddddd"},
		{0x8001, "ddddddddddddddr"},
		{0xc000, "rdddddddddddddd"},
		{0xffff, "rrrrrrrrrrrrrrr"},
	} {
		if s := rows.Text(crc.Bits(x.sum)); s != x.want {
			t.Errorf("Bits(%#x) is %q, not %q", x.sum, s, x.want)
		}
	}
}

func TestBitsOfAllNumbers(t *testing.T) {
	for n := range 1 << 16 {
		l := crc.Bits(uint16(n))
		if len(l) != 15 || bits.Number(l) != uint32(n%sums) {
			t.Fatalf("Bits(%#x) is %q", n, rows.Text(l))
		}
	}
}

// P3.2

// The bits of a check sum behind its bits make it 0; those of any other one don't.
func TestBitsAndTheirSum(t *testing.T) {
	for s := range rows.UpTo(short) {
		l := rows.Of(s)
		sum := crc.Sum(l)
		if got := crc.Sum(append(l, crc.Bits(sum)...)); got != 0 {
			t.Fatalf("Sum of %q and the bits of its sum is %#x", s, got)
		}
		for place := range 15 {
			other := sum ^ 1<<place
			if crc.Sum(append(l, crc.Bits(other)...)) == 0 {
				t.Fatalf("Sum of %q and the bits of %#x is 0; its sum is %#x", s, other, sum)
			}
		}
	}
	for long := range longest + 1 {
		l := body()[:long]
		if got := crc.Sum(append(l, crc.Bits(crc.Sum(l))...)); got != 0 {
			t.Fatalf("Sum of %d bits and the bits of their sum is %#x", long, got)
		}
	}
}

// After bits, those of their sum lead to 0 whatever the sum is.
func TestEverySumLeadsToNone(t *testing.T) {
	for first := range uint16(sums) {
		sum := first
		for _, bit := range crc.Bits(first) {
			sum = crc.Next(sum, bit)
		}
		if sum != 0 {
			t.Fatalf("after the sum %#x its bits lead to %#x", first, sum)
		}
	}
}

func TestSumsCombine(t *testing.T) {
	for long := range 8 {
		for a := range uint32(1) << long {
			for b := range uint32(1) << long {
				one, other := crc.Sum(bits.Of(a, long)), crc.Sum(bits.Of(b, long))
				if both := crc.Sum(bits.Of(a^b, long)); both != one^other {
					t.Fatalf("of %#x and %#x, %d bits, the sums are %#x, %#x, %#x", a, b, long, one, other, both)
				}
			}
		}
	}
	for shift := range longest {
		one := body()
		other := slices.Concat(one[shift:], one[:shift])
		both := slices.Clone(one)
		turnWhere(both, other)
		if crc.Sum(both) != crc.Sum(one)^crc.Sum(other) {
			t.Fatalf("the sums of a body and of it from bit %d on do not combine", shift)
		}
	}
}

// All rows that differ within 15 neighbouring bits: at the ends, and in the middle.
func TestBursts(t *testing.T) {
	l := body()[:64]
	sum := crc.Sum(l)
	for _, place := range []int{0, 1, 7, 24, 48, 49} {
		// Each sum but 0 is that of one burst.
		met := make([]bool, sums)
		for burst := range uint32(sums) {
			other := slices.Clone(l)
			turnWhere(other[place:], bits.Of(burst, 15))
			differs := crc.Sum(other) ^ sum
			if met[differs] || differs == 0 && burst != 0 {
				t.Fatalf("the burst %#x at %d makes the sum differ by %#x", burst, place, differs)
			}
			met[differs] = true
		}
	}
}

// The greatest bursts, at every place: the first and the last of 15 bits differ.
func TestBurstsOfJust15(t *testing.T) {
	l := body()
	sum := crc.Sum(l)
	for place := range longest - 14 {
		for inner := uint32(0); inner < 1<<13; inner += 97 {
			burst := bits.Of(1<<14|inner<<1|1, 15)
			other := slices.Clone(l)
			turnWhere(other[place:], burst)
			if crc.Sum(other) == sum {
				t.Fatalf("the sum is the same with the burst %q at %d", rows.Text(burst), place)
			}
		}
	}
}

// Rows of the same length differ within 15 bits if they have no more.
func TestRowsOfAtMost15Bits(t *testing.T) {
	for long := range 16 {
		met := make([]bool, sums)
		for n := range uint32(1) << long {
			sum := crc.Sum(bits.Of(n, long))
			if met[sum] {
				t.Fatalf("two rows of %d bits have the sum %#x", long, sum)
			}
			met[sum] = true
		}
	}
}

// A burst of 16 bits may be missed: just the one that is the polynomial is.
func TestBurstsOf16(t *testing.T) {
	l := body()
	sum := crc.Sum(l)
	for place := range longest - 15 {
		other := slices.Clone(l)
		turnWhere(other[place:], rows.Of("r"+polyText))
		if got := crc.Sum(other); got != sum {
			t.Errorf("with the polynomial at %d the sum is %#x, not %#x", place, got, sum)
		}
		if crc.Sum(turned(other, place+3)) == sum {
			t.Errorf("with a burst at %d that is not the polynomial the sum is the same", place)
		}
	}
}

func TestOneBit(t *testing.T) {
	for long := range longest + 1 {
		l := body()[:long]
		sum := crc.Sum(l)
		for place := range long {
			if crc.Sum(turned(l, place)) == sum {
				t.Fatalf("of %d bits the sum is the same with bit %d inverted", long, place)
			}
		}
	}
}

func TestThreeBits(t *testing.T) {
	l := body()[:60]
	sum := crc.Sum(l)
	for i := range l {
		for j := range i {
			for k := range j {
				if crc.Sum(turned(l, i, j, k)) == sum {
					t.Fatalf("the sum is the same with bits %d, %d and %d inverted", k, j, i)
				}
			}
		}
	}
}

// A sum has an odd number of recessive bits exactly if what it is of does: so rows
// that differ in an odd number of bits differ in their sums.
func TestOddNumbersOfBits(t *testing.T) {
	odd := func(l []bool) bool { return strings.Count(rows.Text(l), "r")%2 == 1 }
	for s := range rows.UpTo(short) {
		l := rows.Of(s)
		if odd(crc.Bits(crc.Sum(l))) != odd(l) {
			t.Fatalf("Sum(%q) is %#x", s, crc.Sum(l))
		}
	}
	l := body()
	for many := 1; many <= longest; many += 2 {
		for first := range longest - many + 1 {
			other := slices.Clone(l)
			rows.Turn(other[first : first+many])
			if crc.Sum(other) == crc.Sum(l) {
				t.Fatalf("the sum is the same with %d bits from %d on inverted", many, first)
			}
		}
	}
}
