package ident_test

import (
	"bytes"
	"math/rand"
	"slices"
	"testing"

	"jackstay/api"
	"jackstay/frame"
	"jackstay/ident"
	"jackstay/mail"
	"jackstay/samples"
)

// P15.2

// The chapter's example.
func TestFrame(t *testing.T) {
	want := api.Frame{ID: 35651636, Ext: true, Dlc: 2, Data: []byte{1, 2}}
	if f := framed(t, of(1, 2, 3, 4), []byte{1, 2}); !samples.Same(f, want) {
		t.Errorf("it is %v, not %v", f, want)
	}
}

// Data of no byte up to 8, with idents at all ends.
func TestFrameOfManyIdents(t *testing.T) {
	for _, i := range rights() {
		for many := range 9 {
			f := framed(t, i, samples.Data(many))
			want := api.Frame{ID: identifier(i), Ext: true, Dlc: uint8(many), Data: samples.Data(many)}
			if !samples.Same(f, want) || !frame.Right(f) {
				t.Fatalf("with %d bytes Frame(%v) is %v, not %v", many, i, f, want)
			}
			if got, ok := ident.Of(f); got != i || !ok {
				t.Fatalf("Of(%v), the frame of %v, is %v, %v", f, i, got, ok)
			}
		}
	}
}

// All bytes are data like others.
func TestFrameOfAllBytes(t *testing.T) {
	for b := range 256 {
		for many := range 9 {
			data := bytes.Repeat([]byte{byte(b)}, many)
			if f := framed(t, of(9, 31, 65535, 15), data); !bytes.Equal(f.Data, data) {
				t.Fatalf("with %v the frame is %v", data, f)
			}
		}
	}
}

func TestFrameOfTooMuch(t *testing.T) {
	for _, i := range few() {
		for _, many := range []int{9, 10, 15, 16, 255, 256, 257, 264, 4096, 1 << 20} {
			refuses(t, i, make([]byte, many), api.ErrLong)
		}
	}
}

// An ident that is not right comes first.
func TestFrameOfWrongIdents(t *testing.T) {
	for _, i := range wrongs() {
		for _, many := range []int{0, 1, 8, 9, 300} {
			refuses(t, i, make([]byte, many), api.ErrIdent)
		}
	}
}

// Data that are written over afterwards are still those of the frame, and the other way
// round.
func TestFrameHasItsOwnData(t *testing.T) {
	for many := range 9 {
		given := samples.Roomy(api.Frame{Data: samples.Data(many)})
		f := framed(t, of(1, 2, 3, 4), given.Data)
		samples.Spoil(given)
		if !bytes.Equal(f.Data, samples.Data(many)) {
			t.Fatalf("%d bytes, written over, have become %v", many, f.Data)
		}
		kept := slices.Clone(samples.Whole(given).Data)
		samples.Spoil(f)
		if !bytes.Equal(samples.Whole(given).Data, kept) {
			t.Fatalf("%d bytes have become %v with those of their frame", many, given.Data)
		}
	}
}

// The chapter's example, and what is around it: frames that are base, or remote.
func TestOf(t *testing.T) {
	want := of(1, 2, 3, 4)
	for many := range 9 {
		for _, f := range kinds(35651636, many) {
			i, ok := ident.Of(f)
			if f.Ext && !f.Remote {
				if i != want || !ok {
					t.Errorf("Of(%v) is %v, %v, not %v", f, i, ok, want)
				}
			} else if i != (api.Ident{}) || ok {
				t.Errorf("Of(%v) is %v, %v", f, i, ok)
			}
		}
	}
	// The base ones above are not right: these are.
	for _, id := range []uint32{0, 5, api.MaxBase} {
		for _, remote := range []bool{false, true} {
			if i, ok := ident.Of(samples.Made(id, false, remote, 2)); i != (api.Ident{}) || ok {
				t.Errorf("Of the base frame %d is %v, %v", id, i, ok)
			}
		}
	}
}

// A frame with a Dlc above 8 has 8 bytes, and is as right as others.
func TestOfLengths(t *testing.T) {
	want := of(1, 2, 3, 4)
	for dlc := range 256 {
		for many := range 12 {
			f := api.Frame{ID: 35651636, Ext: true, Dlc: uint8(dlc), Data: samples.Data(many)}
			means(t, f)
			i, ok := ident.Of(f)
			if fits := dlc < 16 && many == min(dlc, 8); ok != fits || fits && i != want {
				t.Fatalf("with Dlc %d and %d bytes Of is %v, %v", dlc, many, i, ok)
			}
		}
	}
}

// Frames of identifiers that no right ident has.
func TestOfOtherIdentifiers(t *testing.T) {
	for _, id := range []uint32{rightEnd, rightEnd + 1, 11 << 25, 15 << 25, idEnd - 1, idEnd, idEnd + 35651636, 1 << 31, 1<<32 - 1} {
		for many := range 9 {
			f := samples.Made(id, true, false, uint8(many))
			if i, ok := ident.Of(f); i != (api.Ident{}) || ok {
				t.Errorf("Of(%v) is %v, %v", f, i, ok)
			}
		}
	}
	if i, ok := ident.Of(samples.Made(rightEnd-1, true, false, 3)); i != of(9, 31, 65535, 15) || !ok {
		t.Errorf("Of the last one is %v, %v", i, ok)
	}
}

func TestOfManyFrames(t *testing.T) {
	for _, f := range append(samples.Right(), samples.Wrong()...) {
		means(t, f)
	}
	for _, id := range pairs() {
		for many := range 10 {
			for _, f := range kinds(id, many) {
				means(t, f)
			}
		}
	}
}

// P15.3

// The frame of a lower ident has the lower key, and wins, whatever data they have.
func TestTheLowerIdentWins(t *testing.T) {
	l := few()
	for at, a := range l {
		f := framed(t, a, samples.Data(at%9))
		for _, b := range l {
			g := framed(t, b, samples.Data(8))
			if lower := mail.Key(f) < mail.Key(g); lower != ident.Less(a, b) || frame.Before(f, g) != lower {
				t.Fatalf("the frame of %v has a lower key than that of %v: %v, and wins: %v", a, b, lower, frame.Before(f, g))
			}
		}
	}
}

// Frames that wait go in the order of their idents.
func TestFramesGoInTheOrderOfIdents(t *testing.T) {
	for seed := range int64(20) {
		r := rand.New(rand.NewSource(seed))
		l := shuffled(r.Perm, rights())[:api.MaxMail]
		m, _ := mail.New(api.MaxMail)
		for _, i := range l {
			m.Put(framed(t, i, samples.Data(r.Intn(9))))
		}
		for at, want := range sorted(l) {
			m.Start()
			_, f, _ := m.Best()
			if i, ok := ident.Of(f); i != want || !ok {
				t.Fatalf("seed %d: frame %d is of %v, %v, not of %v", seed, at, i, ok, want)
			}
			m.Sent()
		}
	}
}
