// Package samples has frames for the tests of all layers: right ones of all kinds,
// and some that are not right; and it writes what becomes of them as texts. It is for
// tests alone.
package samples

import (
	"bytes"
	"slices"

	"jackstay/api"
	"jackstay/frame"
	"jackstay/rows"
)

// Letters are those of what happens to a controller, by their numbers: nothing, sent,
// took, lost, bit, fill, form, (not) acknowledged, check sum, over, off (x), on.
const Letters = "-stlbfmacoxn"

const ackBack = 9 // the acknowledgement slot is so many bits before a wire form's end

// Same reports whether two frames are; no data are as good as nil.
func Same(a, b api.Frame) bool {
	return a.ID == b.ID && a.Ext == b.Ext && a.Remote == b.Remote && a.Dlc == b.Dlc && bytes.Equal(a.Data, b.Data)
}

// Are reports whether these frames are the wanted ones, in that order.
func Are(l []api.Frame, want ...api.Frame) bool { return slices.EqualFunc(l, want, Same) }

// SameCtl reports whether two controllers are; no bits, and no data, are as good as nil.
func SameCtl(a, b api.Ctl) bool {
	return a.Phase == b.Phase && a.N == b.N && a.Conf == b.Conf &&
		a.Has == b.Has && Same(a.Give, b.Give) &&
		a.Sends == b.Sends && a.Sender == b.Sender &&
		slices.Equal(a.Wire, b.Wire) && a.At == b.At &&
		a.Take.Row == b.Take.Row && slices.Equal(a.Take.Bits, b.Take.Bits) && a.Take.Place == b.Take.Place && a.Take.Fits == b.Take.Fits &&
		a.Row == b.Row && a.Error == b.Error && a.Owed == b.Owed
}

// Roomy is f with its data in memory of its own, and more bytes behind their end.
func Roomy(f api.Frame) api.Frame {
	f.Data = append(slices.Clone(f.Data), "behind it"...)[:len(f.Data)]
	return f
}

// Whole is f with the room behind its data's end as a part of them.
func Whole(f api.Frame) api.Frame {
	f.Data = f.Data[:cap(f.Data)]
	return f
}

// Spoil writes over all memory of f.
func Spoil(f api.Frame) {
	l := Whole(f).Data
	for i := range l {
		l[i] ^= 0xff
	}
}

// RoomyCtl is c with all its slices in memory of their own, and more behind their ends.
func RoomyCtl(c api.Ctl) api.Ctl {
	more := rows.Of("drdrdrdrdrdr")
	c.Give = Roomy(c.Give)
	c.Wire = append(slices.Clone(c.Wire), more...)[:len(c.Wire)]
	c.Take.Bits = append(slices.Clone(c.Take.Bits), more...)[:len(c.Take.Bits)]
	return c
}

// WholeCtl is c with the room behind its slices' ends as a part of them.
func WholeCtl(c api.Ctl) api.Ctl {
	c.Give = Whole(c.Give)
	c.Wire, c.Take.Bits = c.Wire[:cap(c.Wire)], c.Take.Bits[:cap(c.Take.Bits)]
	return c
}

// SpoilCtl writes over all memory of c.
func SpoilCtl(c api.Ctl) {
	c = WholeCtl(c)
	Spoil(c.Give)
	rows.Turn(c.Wire)
	rows.Turn(c.Take.Bits)
}

// Wire is the wire form of a right frame.
func Wire(f api.Frame) string {
	l, _ := frame.Wire(f)
	return rows.Text(l)
}

// Acked is a wire form with a dominant acknowledgement.
func Acked(s string) string { return rows.Turned(s, len(s)-ackBack) }

// OnBus is what is on the bus while a right frame is sent that others acknowledge.
func OnBus(f api.Frame) string { return Acked(Wire(f)) }

// Data are so many bytes, 11 at most.
func Data(many int) []byte { return []byte("\xa5\x00\xff\x01\x80\x7e\x3c\x55\xaa\x11\x22")[:many] }

// Made is a frame with the data that it needs.
func Made(id uint32, ext, remote bool, dlc uint8) api.Frame {
	f := api.Frame{ID: id, Ext: ext, Remote: remote, Dlc: dlc}
	if !remote {
		f.Data = Data(int(min(dlc, 8)))
	}
	return f
}

// Right are some right frames of all kinds, with the least and the greatest IDs, base
// and extended ones with the same upper bits, and every Dlc.
func Right() []api.Frame {
	var l []api.Frame
	for _, remote := range []bool{false, true} {
		for dlc := range uint8(16) {
			for _, id := range []uint32{0, 1, 5, 0x123, 0x400, 0x7fe, 0x7ff} {
				l = append(l, Made(id, false, remote, dlc))
			}
			for _, id := range []uint32{0, 1, 5, 0x7ff, 0x800, 1 << 17, 1<<18 - 1, 1 << 18, 5 << 18, 0x123<<18 | 0x2aaaa, 0x7ff << 18, 1 << 28, 1<<29 - 2, 1<<29 - 1} {
				l = append(l, Made(id, true, remote, dlc))
			}
		}
	}
	return l
}

// Some are right frames of all kinds, so few that much can be tried with each.
func Some() []api.Frame {
	l := []api.Frame{{}, {ID: 1}, {ID: 9}, {ID: 0x17}, {ID: 0x7ff}, {ID: 0x7ff, Remote: true}, {ID: 0x123, Dlc: 1, Data: []byte{0xaa}}}
	for i, f := range Right() {
		if i%23 == 0 {
			l = append(l, f)
		}
	}
	return l
}

// Apart are so many right frames that differ from each other in their IDs, their kinds,
// or whether they are remote. Which ones is told by the order that perm returns of the
// numbers below a given one.
func Apart(perm func(int) []int, many int) []api.Frame {
	type key struct {
		id          uint32
		ext, remote bool
	}
	met := map[key]bool{}
	var l []api.Frame
	all := Right()
	for _, i := range perm(len(all)) {
		f := all[i]
		if k := (key{f.ID, f.Ext, f.Remote}); !met[k] && len(l) < many {
			met[k] = true
			l = append(l, f)
		}
	}
	return l
}

// Sorted are the places of these frames in the order in which they win: all differ.
func Sorted(l []api.Frame) []int {
	var places []int
	for i := range l {
		places = append(places, i)
	}
	slices.SortFunc(places, func(a, b int) int {
		if frame.Before(l[a], l[b]) {
			return -1
		}
		return 1
	})
	return places
}

// Wrong are some frames that are not right, each in one thing.
func Wrong() []api.Frame {
	l := []api.Frame{
		{ID: 1 << 11}, {ID: 1<<11 + 5}, {ID: 1 << 18}, {ID: 1<<29 - 1}, {ID: 1<<32 - 1},
		{ID: 1 << 29, Ext: true}, {ID: 1<<29 + 5, Ext: true}, {ID: 1<<32 - 1, Ext: true},
		{ID: 1 << 11, Remote: true}, {ID: 1 << 29, Ext: true, Remote: true},
	}
	for _, ext := range []bool{false, true} {
		for _, dlc := range []uint8{16, 17, 24, 128, 255} {
			l = append(l, Made(1, ext, false, dlc), Made(1, ext, true, dlc))
		}
		for dlc := range uint8(16) {
			f := Made(1, ext, false, dlc)
			for many := range 12 {
				f.Data = Data(many)
				if many != int(min(dlc, 8)) {
					l = append(l, f)
				}
			}
			f.Remote = true
			for many := 1; many < 12; many++ {
				f.Data = Data(many)
				l = append(l, f)
			}
		}
	}
	return l
}

// WrongFilters are some that are not right, each of which would accept frames if nobody
// asked whether it is.
func WrongFilters() []api.Filter {
	base := func(mask, match uint32) api.Filter { return api.Filter{Mask: mask, Match: match} }
	extended := func(mask, match uint32) api.Filter { return api.Filter{Ext: true, Mask: mask, Match: match} }
	return []api.Filter{
		base(1<<11, 0), base(1<<12-1, 5), base(1<<31, 0), base(1<<32-1, 0),
		base(1<<11, 1<<11), base(0, 1<<11), base(1<<11-1, 1<<11),
		base(0, 1), base(7, 8), base(7, 9), base(1<<11-2, 1<<11-1), base(1<<10, 1),
		extended(1<<29, 0), extended(1<<30-1, 5), extended(1<<31, 0), extended(1<<32-1, 0),
		extended(1<<29, 1<<29), extended(0, 1<<29), extended(1<<29-1, 1<<29),
		extended(0, 1), extended(7, 8), extended(7, 9), extended(1<<29-2, 1<<29-1), extended(1<<28, 1),
	}
}
