package bits_test

import (
	"bytes"
	"slices"
	"strings"
	"testing"

	"jackstay/bits"
	"jackstay/rows"
)

// numbers are those with few or many ones, and those at the edges of bytes.
func numbers() []uint32 {
	l := []uint32{0, 0xffffffff, 0xaaaaaaaa, 0x55555555, 0x12345678, 0xdeadbeef, 0xff, 0xff00, 0xffff0000}
	for i := range 32 {
		l = append(l, 1<<i, ^uint32(1<<i), 1<<i-1)
	}
	return l
}

// P1.1

func TestOfListsTheHighestBitFirst(t *testing.T) {
	for _, x := range []struct {
		n    uint32
		many int
		want string
	}{
		{5, 4, "drdr"},
		{5, 3, "rdr"},
		{5, 2, "dr"},
		{5, 1, "r"},
		{4, 1, "d"},
		{6, 3, "rrd"},
		{0, 3, "ddd"},
		{0x80, 8, "rddddddd"},
		{0x80000001, 32, "r" + strings.Repeat("d", 30) + "r"},
		{0x80000001, 31, strings.Repeat("d", 30) + "r"},
	} {
		if s := rows.Text(bits.Of(x.n, x.many)); s != x.want {
			t.Errorf("Of(%#x, %d) is %q, not %q", x.n, x.many, s, x.want)
		}
	}
}

func TestOfHasLeadingZerosAbove32(t *testing.T) {
	for many := 32; many <= 64; many++ {
		for _, n := range numbers() {
			l := bits.Of(n, many)
			if len(l) != many {
				t.Fatalf("Of(%#x, %d) has %d bits", n, many, len(l))
			}
			if slices.Contains(l[:many-32], true) {
				t.Fatalf("Of(%#x, %d) begins with %q", n, many, rows.Text(l[:many-32]))
			}
			if !slices.Equal(l[many-32:], bits.Of(n, 32)) {
				t.Fatalf("Of(%#x, %d) ends with %q", n, many, rows.Text(l[many-32:]))
			}
		}
	}
}

func TestOfBoundsTheCount(t *testing.T) {
	for _, x := range []struct{ many, want int }{
		{-1000000, 0}, {-64, 0}, {-1, 0}, {0, 0}, {1, 1}, {63, 63}, {64, 64}, {65, 64}, {100, 64}, {1000000, 64},
	} {
		l := bits.Of(0xffffffff, x.many)
		if len(l) != x.want {
			t.Errorf("Of(.., %d) has %d bits, not %d", x.many, len(l), x.want)
		}
		if ones := min(x.want, 32); strings.Count(rows.Text(l), "r") != ones {
			t.Errorf("Of(.., %d) is %q", x.many, rows.Text(l))
		}
	}
}

func TestNumberReadsTheHighestBitFirst(t *testing.T) {
	for _, x := range []struct {
		l    string
		want uint32
	}{
		{"", 0},
		{"d", 0},
		{"r", 1},
		{"drdr", 5},
		{"rdrd", 10},
		{"rddddddd", 0x80},
		{strings.Repeat("r", 31), 0x7fffffff},
		{strings.Repeat("r", 32), 0xffffffff},
		{"r" + strings.Repeat("d", 31), 0x80000000},
	} {
		if n := bits.Number(rows.Of(x.l)); n != x.want {
			t.Errorf("Number(%q) is %#x, not %#x", x.l, n, x.want)
		}
	}
}

func TestNumberTakesTheLast32(t *testing.T) {
	for _, more := range []string{"r", "d", "rd", strings.Repeat("r", 31), strings.Repeat("r", 32), strings.Repeat("rd", 500)} {
		for _, n := range numbers() {
			l := append(rows.Of(more), bits.Of(n, 32)...)
			if got := bits.Number(l); got != n {
				t.Fatalf("Number of %q and the bits of %#x is %#x", more, n, got)
			}
		}
	}
}

// P1.2

func TestOfBytesListsOneByteAfterTheOther(t *testing.T) {
	for _, x := range []struct {
		b    string
		want string
	}{
		{"", ""},
		{"\x80", "rddddddd"},
		{"\x01", "dddddddr"},
		{"\x00", "dddddddd"},
		{"\xff", "rrrrrrrr"},
		{"\xa5\x01", "rdrddrdr" + "dddddddr"},
		{"\x00\x80\xff", "dddddddd" + "rddddddd" + "rrrrrrrr"},
	} {
		if s := rows.Text(bits.OfBytes([]byte(x.b))); s != x.want {
			t.Errorf("OfBytes(%x) is %q, not %q", x.b, s, x.want)
		}
	}
}

func TestBytesReadsEightBitsEach(t *testing.T) {
	for _, x := range []struct {
		l    string
		want string
	}{
		{"", ""},
		{"rddddddd", "\x80"},
		{"dddddddr", "\x01"},
		{"rdrddrdr" + "dddddddr", "\xa5\x01"},
		{"rrrrrrrr" + "dddddddd" + "ddddrrrr", "\xff\x00\x0f"},
	} {
		if b := bits.Bytes(rows.Of(x.l)); string(b) != x.want {
			t.Errorf("Bytes(%q) is %x, not %x", x.l, b, x.want)
		}
	}
}

func TestBytesIgnoresWhatIsLeftOver(t *testing.T) {
	for _, whole := range []string{"", "\xa5", "\x00\xff", "12345678"} {
		for _, rest := range []string{"r", "d", "rr", "ddr", "rrrr", "drdrd", "rrrrrr", "rrrrrrr", "ddddddd"} {
			l := append(bits.OfBytes([]byte(whole)), rows.Of(rest)...)
			if b := bits.Bytes(l); string(b) != whole {
				t.Errorf("Bytes of %x and %q is %x", whole, rest, b)
			}
		}
	}
}

// P1.3

func TestBus(t *testing.T) {
	for _, x := range []struct {
		drives string
		want   bool
	}{
		{"", true},
		{"r", true},
		{"d", false},
		{"rr", true},
		{"rd", false},
		{"dr", false},
		{"dd", false},
		{strings.Repeat("r", 32), true},
		{strings.Repeat("d", 32), false},
		{strings.Repeat("r", 1000), true},
	} {
		if bus := bits.Bus(rows.Of(x.drives)); bus != x.want {
			t.Errorf("Bus(%q) is %v", x.drives, bus)
		}
	}
}

func TestOneDominantNodeIsEnough(t *testing.T) {
	for many := 1; many <= 40; many++ {
		for node := range many {
			drives := slices.Repeat([]bool{true}, many)
			drives[node] = false
			if bits.Bus(drives) {
				t.Fatalf("node %d of %d drives dominant, and the bus is recessive", node, many)
			}
		}
	}
}

// P1.4

func TestNumbersSurvive(t *testing.T) {
	for _, n := range numbers() {
		for many := 32; many <= 70; many++ {
			if got := bits.Number(bits.Of(n, many)); got != n {
				t.Fatalf("%#x comes back from %d bits as %#x", n, many, got)
			}
		}
		for many := range 32 {
			if got, want := bits.Number(bits.Of(n, many)), n&(1<<many-1); got != want {
				t.Fatalf("%#x comes back from %d bits as %#x, not %#x", n, many, got, want)
			}
		}
	}
	for n := range uint32(1 << 12) {
		if l := bits.Of(n, 12); bits.Number(l) != n {
			t.Fatalf("%#x comes back from %q", n, rows.Text(l))
		}
	}
}

func TestBytesSurvive(t *testing.T) {
	var all []byte
	for x := range 256 {
		all = append(all, byte(x))
		one := []byte{byte(x)}
		if got := bits.Bytes(bits.OfBytes(one)); !bytes.Equal(got, one) {
			t.Fatalf("%x comes back as %x", one, got)
		}
		if got := bits.Bytes(bits.OfBytes(all)); !bytes.Equal(got, all) {
			t.Fatalf("%x comes back as %x", all, got)
		}
	}
}

func TestBitsSurvive(t *testing.T) {
	for _, n := range numbers() {
		for _, many := range []int{0, 8, 16, 24, 32, 40, 64} {
			l := bits.Of(n, many)
			if got := bits.OfBytes(bits.Bytes(l)); !slices.Equal(got, l) {
				t.Fatalf("%q comes back from bytes as %q", rows.Text(l), rows.Text(got))
			}
			if got := bits.Of(bits.Number(l), many); !slices.Equal(got, l) {
				t.Fatalf("%q comes back from a number as %q", rows.Text(l), rows.Text(got))
			}
		}
	}
}

func TestOneMoreNode(t *testing.T) {
	for many := range 10 {
		for n := range uint32(1 << many) {
			drives := bits.Of(n, many)
			bus := bits.Bus(drives)
			for at := range many + 1 {
				if bits.Bus(slices.Insert(slices.Clone(drives), at, true)) != bus {
					t.Fatalf("one more recessive node at %d changes the bus of %q", at, rows.Text(drives))
				}
				if bits.Bus(slices.Insert(slices.Clone(drives), at, false)) {
					t.Fatalf("one more dominant node at %d of %q leaves the bus recessive", at, rows.Text(drives))
				}
			}
		}
	}
}
