package ident_test

import (
	"slices"
	"testing"

	"jackstay/api"
	"jackstay/ident"
	"jackstay/samples"
)

// Where identifiers end, and those of right idents: the first ones that are none.
const (
	idEnd    = 1 << 29
	rightEnd = 10 << 25
)

// of is an ident.
func of(kind, from uint8, seq uint16, ref uint8) api.Ident {
	return api.Ident{Kind: kind, From: from, Seq: seq, Ref: ref}
}

// right is a second telling of what a right ident is.
func right(i api.Ident) bool { return i.Kind < 10 && i.From < 32 && i.Ref < 16 }

// identifier is a second telling of that of a right ident, by products.
func identifier(i api.Ident) uint32 {
	return uint32(i.Kind)*32*65536*16 + uint32(i.From)*65536*16 + uint32(i.Seq)*16 + uint32(i.Ref)
}

// parted is a second telling of which ident an identifier has, by remainders.
func parted(id uint32) (api.Ident, bool) {
	if id >= rightEnd {
		return api.Ident{}, false
	}
	return of(uint8(id/16/65536/32), uint8(id/16/65536%32), uint16(id/16%65536), uint8(id%16)), true
}

// meant is a second telling of Of.
func meant(f api.Frame) (api.Ident, bool) {
	long := int(f.Dlc)
	if long > 8 {
		long = 8
	}
	if f.Remote || !f.Ext || f.Dlc > 15 || len(f.Data) != long {
		return api.Ident{}, false
	}
	return parted(f.ID)
}

// before is a second telling of Less.
func before(a, b api.Ident) bool {
	if a.Kind != b.Kind {
		return a.Kind < b.Kind
	}
	if a.From != b.From {
		return a.From < b.From
	}
	if a.Seq != b.Seq {
		return a.Seq < b.Seq
	}
	return a.Ref < b.Ref
}

// mixed are all idents of these parts.
func mixed(kinds, froms []uint8, seqs []uint16, refs []uint8) []api.Ident {
	var l []api.Ident
	for _, kind := range kinds {
		for _, from := range froms {
			for _, seq := range seqs {
				for _, ref := range refs {
					l = append(l, of(kind, from, seq, ref))
				}
			}
		}
	}
	return l
}

// rights are right idents of all kinds, with their other parts at their ends, at powers
// of 2, and between.
func rights() []api.Ident {
	return mixed(
		[]uint8{0, 1, 2, 3, 4, 5, 6, 7, 8, 9},
		[]uint8{0, 1, 2, 4, 8, 15, 16, 21, 30, 31},
		[]uint16{0, 1, 2, 15, 16, 255, 256, 0x1234, 0x7fff, 0x8000, 0xaaaa, 0xfffe, 0xffff},
		[]uint8{0, 1, 2, 4, 7, 8, 10, 14, 15},
	)
}

// few are so few right idents that all pairs can be tried.
func few() []api.Ident {
	return mixed([]uint8{0, 1, 8, 9}, []uint8{0, 1, 30, 31}, []uint16{0, 1, 255, 256, 65535}, []uint8{0, 1, 15})
}

// wrongs are idents that are not right in one part, or in several; their identifiers
// would be those of others if nobody asked.
func wrongs() []api.Ident {
	l := []api.Ident{of(10, 32, 0, 16), of(255, 255, 65535, 255), of(16, 32, 0, 16), of(10, 32, 5, 0), of(0, 32, 5, 16), of(10, 0, 5, 16)}
	for _, seq := range []uint16{0, 1, 65535} {
		for _, rest := range []api.Ident{of(0, 0, seq, 0), of(9, 31, seq, 15), of(4, 16, seq, 7)} {
			for _, above := range []uint8{10, 11, 15, 16, 17, 26, 128, 255} {
				i := rest
				i.Kind = above
				l = append(l, i)
			}
			for _, above := range []uint8{32, 33, 63, 64, 128, 255} {
				i := rest
				i.From = above
				l = append(l, i)
			}
			for _, above := range []uint8{16, 17, 31, 32, 128, 255} {
				i := rest
				i.Ref = above
				l = append(l, i)
			}
		}
	}
	return l
}

// pairs are all identifiers with at most two ones, or at most two zeros.
func pairs() []uint32 {
	l := []uint32{0, 1<<32 - 1}
	for i := range 32 {
		for j := range i + 1 {
			l = append(l, 1<<i|1<<j, ^uint32(1<<i|1<<j))
		}
	}
	return l
}

// made is the identifier of an ident that is right.
func made(t *testing.T, i api.Ident) uint32 {
	t.Helper()
	id, e := ident.Make(i)
	if e != api.OK {
		t.Fatalf("Make(%v) is error %d", i, e)
	}
	return id
}

// framed is the frame of an ident that is right, with data that are not too long.
func framed(t *testing.T, i api.Ident, data []byte) api.Frame {
	t.Helper()
	f, e := ident.Frame(i, data)
	if e != api.OK {
		t.Fatalf("Frame(%v, %v) is error %d", i, data, e)
	}
	return f
}

// refuses holds Frame to be an error.
func refuses(t *testing.T, i api.Ident, data []byte, want api.Errno) {
	t.Helper()
	if f, e := ident.Frame(i, data); !samples.Same(f, api.Frame{}) || e != want {
		t.Fatalf("Frame of %v with %d bytes is %v, error %d, not %d", i, len(data), f, e, want)
	}
}

// reads holds Read to its second telling.
func reads(t *testing.T, id uint32) {
	t.Helper()
	want, has := parted(id)
	if i, ok := ident.Read(id); i != want || ok != has {
		t.Fatalf("Read(%#x) is %v, %v, not %v, %v", id, i, ok, want, has)
	}
}

// means holds Of to its second telling.
func means(t *testing.T, f api.Frame) {
	t.Helper()
	want, has := meant(f)
	if i, ok := ident.Of(f); i != want || ok != has {
		t.Fatalf("Of(%v) is %v, %v, not %v, %v", f, i, ok, want, has)
	}
}

// orders holds Less to its second telling, both ways.
func orders(t *testing.T, a, b api.Ident) {
	t.Helper()
	if ident.Less(a, b) != before(a, b) || ident.Less(b, a) != before(b, a) {
		t.Fatalf("of %v and %v the first is before the second: %v, the other way round %v", a, b, ident.Less(a, b), ident.Less(b, a))
	}
}

// kinds are frames with an identifier and so many bytes: of each kind, remote or not.
func kinds(id uint32, many int) []api.Frame {
	var l []api.Frame
	for _, ext := range []bool{false, true} {
		for _, remote := range []bool{false, true} {
			l = append(l, samples.Made(id, ext, remote, uint8(many)))
		}
	}
	return l
}

// shuffled are idents in the order that perm returns of the numbers below a given one.
func shuffled(perm func(int) []int, l []api.Ident) []api.Ident {
	var out []api.Ident
	for _, at := range perm(len(l)) {
		out = append(out, l[at])
	}
	return out
}

// sorted are idents in their order.
func sorted(l []api.Ident) []api.Ident {
	l = slices.Clone(l)
	slices.SortFunc(l, func(a, b api.Ident) int {
		switch {
		case ident.Less(a, b):
			return -1
		case ident.Less(b, a):
			return 1
		}
		return 0
	})
	return l
}
