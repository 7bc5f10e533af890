package ident_test

import (
	"math"
	"testing"

	"jackstay/api"
	"jackstay/ident"
)

// P15.1

// All kinds, nodes and references, with the least and the greatest number.
func TestRight(t *testing.T) {
	for kind := range 256 {
		for from := range 256 {
			for ref := range 256 {
				for _, seq := range []uint16{0, math.MaxUint16} {
					i := of(uint8(kind), uint8(from), seq, uint8(ref))
					if ident.Right(i) != right(i) {
						t.Fatalf("that %v is right is %v", i, !right(i))
					}
				}
			}
		}
	}
}

// Each part at 0, at its greatest, and one above.
func TestRightAtTheEnds(t *testing.T) {
	for _, x := range []struct {
		i    api.Ident
		want bool
	}{
		{api.Ident{}, true},
		{api.Ident{Kind: 9}, true},
		{api.Ident{Kind: 10}, false},
		{api.Ident{Kind: api.MaxKind}, false},
		{api.Ident{From: 31}, true},
		{api.Ident{From: 32}, false},
		{api.Ident{Seq: 65535}, true},
		{api.Ident{Ref: 15}, true},
		{api.Ident{Ref: 16}, false},
		{of(9, 31, 65535, 15), true},
		{of(10, 31, 65535, 15), false},
		{of(9, 32, 65535, 15), false},
		{of(9, 31, 65535, 16), false},
	} {
		if ident.Right(x.i) != x.want {
			t.Errorf("that %v is right is %v", x.i, !x.want)
		}
	}
}

// The chapter's example, each part's lowest and highest bit, and its greatest number.
func TestMake(t *testing.T) {
	for _, x := range []struct {
		i    api.Ident
		want uint32
	}{
		{of(1, 2, 3, 4), 35651636},
		{api.Ident{}, 0},
		{api.Ident{Ref: 1}, 1},
		{api.Ident{Ref: 8}, 8},
		{api.Ident{Ref: 15}, 15},
		{api.Ident{Seq: 1}, 1 << 4},
		{api.Ident{Seq: 1 << 15}, 1 << 19},
		{api.Ident{Seq: 65535}, 65535 << 4},
		{api.Ident{From: 1}, 1 << 20},
		{api.Ident{From: 16}, 1 << 24},
		{api.Ident{From: 31}, 31 << 20},
		{api.Ident{Kind: 1}, 1 << 25},
		{api.Ident{Kind: 8}, 1 << 28},
		{api.Ident{Kind: 9}, 9 << 25},
		{of(9, 31, 65535, 15), 0b1001_11111_1111111111111111_1111},
		{of(5, 0b10110, 0b1100_0011_1010_0101, 0b0110), 0b0101_10110_1100001110100101_0110},
	} {
		if id := made(t, x.i); id != x.want {
			t.Errorf("Make(%v) is %#b, not %#b", x.i, id, x.want)
		}
	}
}

func TestMakeOfManyIdents(t *testing.T) {
	for _, i := range rights() {
		if id := made(t, i); id != identifier(i) {
			t.Fatalf("Make(%v) is %#x, not %#x", i, id, identifier(i))
		}
	}
}

// All sequence numbers, of the first ident and of the last one.
func TestMakeOfAllNumbers(t *testing.T) {
	for seq := range 1 << 16 {
		for _, i := range []api.Ident{of(0, 0, uint16(seq), 0), of(9, 31, uint16(seq), 15)} {
			if id := made(t, i); id != identifier(i) {
				t.Fatalf("Make(%v) is %#x, not %#x", i, id, identifier(i))
			}
		}
	}
}

func TestMakeOfWrongIdents(t *testing.T) {
	for _, i := range wrongs() {
		if id, e := ident.Make(i); id != 0 || e != api.ErrIdent {
			t.Errorf("Make(%v) is %#x, error %d", i, id, e)
		}
	}
}

func TestRead(t *testing.T) {
	for _, x := range []struct {
		id   uint32
		want api.Ident
	}{
		{0, api.Ident{}},
		{1, api.Ident{Ref: 1}},
		{15, api.Ident{Ref: 15}},
		{16, api.Ident{Seq: 1}},
		{1<<20 - 1, api.Ident{Seq: 65535, Ref: 15}},
		{1 << 20, api.Ident{From: 1}},
		{1<<25 - 1, of(0, 31, 65535, 15)},
		{1 << 25, api.Ident{Kind: 1}},
		{35651636, of(1, 2, 3, 4)},
		{9 << 25, api.Ident{Kind: 9}},
		{10<<25 - 1, of(9, 31, 65535, 15)},
		{0b0101_10110_1100001110100101_0110, of(5, 0b10110, 0b1100_0011_1010_0101, 0b0110)},
	} {
		if i, ok := ident.Read(x.id); i != x.want || !ok {
			t.Errorf("Read(%#x) is %v, %v, not %v", x.id, i, ok, x.want)
		}
	}
}

// Identifiers of kinds above the last one, and those of more than 29 bits: also if
// the lowest 29 of them are a right ident's.
func TestReadOfNone(t *testing.T) {
	for _, id := range []uint32{
		10 << 25, 10<<25 + 1, 11 << 25, 12 << 25, 15 << 25, idEnd - 1,
		idEnd, idEnd + 1, idEnd + 35651636, 2 * idEnd, 3 * idEnd, 7 * idEnd, 1 << 31, math.MaxUint32,
	} {
		if i, ok := ident.Read(id); i != (api.Ident{}) || ok {
			t.Errorf("Read(%#x) is %v, %v", id, i, ok)
		}
	}
}

// The first and the last identifiers of each kind, and of numbers above all kinds.
func TestReadOfEachKind(t *testing.T) {
	for kind := range uint32(128) {
		first := kind << 25
		for _, id := range []uint32{first, first + 1, first + 35651636%(1<<25), first + 1<<25 - 2, first + 1<<25 - 1} {
			reads(t, id)
			i, ok := ident.Read(id)
			if ok != (kind < 10) || ok && uint32(i.Kind) != kind {
				t.Errorf("Read(%#x), of kind %d, is %v, %v", id, kind, i, ok)
			}
		}
	}
}

func TestReadBitByBit(t *testing.T) {
	for _, id := range pairs() {
		reads(t, id)
	}
}

// Identifiers of all sizes, and all of the short parts with some numbers.
func TestReadOfManyIdentifiers(t *testing.T) {
	for id := uint64(0); id <= math.MaxUint32; id += 3989 {
		reads(t, uint32(id))
	}
	for kind := range uint32(16) {
		for from := range uint32(32) {
			for ref := range uint32(16) {
				for _, seq := range []uint32{0, 0x8001, 0xffff} {
					reads(t, kind<<25|from<<20|seq<<4|ref)
				}
			}
		}
	}
}

// Idents that are the same, or differ in one part alone.
func TestLessByOnePart(t *testing.T) {
	for _, i := range rights() {
		if ident.Less(i, i) {
			t.Fatalf("%v is before itself", i)
		}
		for _, more := range []api.Ident{
			of(i.Kind+1, i.From, i.Seq, i.Ref),
			of(i.Kind, i.From+1, i.Seq, i.Ref),
			of(i.Kind, i.From, i.Seq|1, i.Ref),
			of(i.Kind, i.From, i.Seq, i.Ref+1),
		} {
			if want := i != more; ident.Less(i, more) != want || ident.Less(more, i) {
				t.Fatalf("%v is before %v: %v, the other way round %v", i, more, ident.Less(i, more), ident.Less(more, i))
			}
		}
	}
}

// Idents that two parts order either way: the first of them counts.
func TestLessByTwoParts(t *testing.T) {
	for _, x := range [][2]api.Ident{
		{of(1, 5, 5, 5), of(2, 4, 5, 5)},
		{of(1, 5, 5, 5), of(2, 5, 4, 5)},
		{of(1, 5, 5, 5), of(2, 5, 5, 4)},
		{of(5, 1, 5, 5), of(5, 2, 4, 5)},
		{of(5, 1, 5, 5), of(5, 2, 5, 4)},
		{of(5, 5, 1, 5), of(5, 5, 2, 4)},
		{of(0, 31, 65535, 15), of(1, 0, 0, 0)},
		{of(9, 0, 65535, 15), of(9, 1, 0, 0)},
		{of(9, 31, 0, 15), of(9, 31, 1, 0)},
		{of(0, 0, 255, 0), of(0, 0, 256, 0)},
		{of(0, 0, 32767, 0), of(0, 0, 32768, 0)},
	} {
		if !ident.Less(x[0], x[1]) || ident.Less(x[1], x[0]) {
			t.Errorf("%v is before %v: %v, the other way round %v", x[0], x[1], ident.Less(x[0], x[1]), ident.Less(x[1], x[0]))
		}
		// The same holds if two parts order them alike.
		y := of(max(x[0].Kind, x[1].Kind), max(x[0].From, x[1].From), max(x[0].Seq, x[1].Seq), max(x[0].Ref, x[1].Ref))
		if !ident.Less(x[0], y) || ident.Less(y, x[0]) {
			t.Errorf("%v is not before %v, or that is before it", x[0], y)
		}
	}
}

func TestLessOfAllPairs(t *testing.T) {
	l := few()
	for at, a := range l {
		for _, b := range l[at:] {
			orders(t, a, b)
		}
	}
}

// The order is that of the parts: it does not ask whether idents are right.
func TestLessOfWrongIdents(t *testing.T) {
	l := append(wrongs(), few()...)
	for _, a := range wrongs() {
		for _, b := range l {
			orders(t, a, b)
		}
	}
	for _, x := range [][2]api.Ident{
		{of(9, 31, 65535, 15), of(10, 0, 0, 0)},
		{of(0, 31, 0, 0), of(0, 32, 0, 0)},
		{of(0, 0, 0, 15), of(0, 0, 0, 16)},
		// A part that is too great does not grow into the one ahead of it.
		{of(0, 255, 65535, 255), of(1, 0, 0, 0)},
		{of(0, 0, 65535, 255), of(0, 1, 0, 0)},
		{of(0, 0, 0, 255), of(0, 0, 1, 0)},
	} {
		if !ident.Less(x[0], x[1]) || ident.Less(x[1], x[0]) {
			t.Errorf("%v is not before %v, or that is before it", x[0], x[1])
		}
	}
}

// P15.3

func TestReadIsTheInverseOfMake(t *testing.T) {
	for _, i := range rights() {
		if got, ok := ident.Read(made(t, i)); got != i || !ok {
			t.Fatalf("Read of what Make(%v) returns is %v, %v", i, got, ok)
		}
	}
	for id := uint32(0); id < rightEnd; id += 1013 {
		i, ok := ident.Read(id)
		if got := made(t, i); got != id || !ok {
			t.Fatalf("Make of what Read(%#x) returns, %v, is %#x", id, ok, got)
		}
	}
}

// The lower ident has the lower identifier.
func TestTheLowerIdentHasTheLowerIdentifier(t *testing.T) {
	l := few()
	for _, a := range l {
		for _, b := range l {
			if lower := made(t, a) < made(t, b); lower != ident.Less(a, b) {
				t.Fatalf("the identifier of %v is below that of %v: %v", a, b, lower)
			}
		}
	}
}
