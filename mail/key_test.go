package mail_test

import (
	"testing"

	"jackstay/api"
	"jackstay/bits"
	"jackstay/frame"
	"jackstay/mail"
	"jackstay/samples"
)

// P10.1: keys.

func TestKey(t *testing.T) {
	for _, x := range []struct {
		f    api.Frame
		want uint32
	}{
		{api.Frame{ID: 1}, 2097152},
		{api.Frame{ID: 1, Remote: true}, 3145728},
		{api.Frame{ID: 1 << 18, Ext: true}, 3670016},
		{api.Frame{}, 0},
		{api.Frame{Remote: true}, 1 << 20},
		{api.Frame{ID: 0x7ff}, 0b11111111111_0 << 20},
		{api.Frame{ID: 0x7ff, Remote: true}, 0b11111111111_1 << 20},
		{api.Frame{ID: 0x123}, 0b00100100011_0 << 20},
		{api.Frame{Ext: true}, 0b11 << 19},
		{api.Frame{Ext: true, Remote: true}, 0b11<<19 | 1},
		{api.Frame{ID: 1, Ext: true}, 0b11<<19 | 0b10},
		{api.Frame{ID: 1<<18 - 1, Ext: true}, 0b11_111111111111111111_0},
		{api.Frame{ID: 1<<18 + 1, Ext: true, Remote: true}, 0b00000000001_11_000000000000000001_1},
		{api.Frame{ID: 1<<29 - 1, Ext: true}, 1<<32 - 2},
		{api.Frame{ID: 1<<29 - 1, Ext: true, Remote: true}, 1<<32 - 1},
		{api.Frame{ID: 0b00100100011_101010101010101010, Ext: true}, 0b00100100011_11_101010101010101010_0},
	} {
		if key := mail.Key(x.f); key != x.want {
			t.Errorf("Key(%v) is %#b, not %#b", x.f, key, x.want)
		}
	}
}

// seen is what arbitration sees of a frame, told by its bits on the wire: what follows
// the start of frame, up to the remote bit.
func seen(t *testing.T, f api.Frame) uint32 {
	t.Helper()
	l, e := frame.Body(f)
	if e != api.OK {
		t.Fatalf("%v has no bits: error %d", f, e)
	}
	if f.Ext {
		return bits.Number(l[1:33])
	}
	return bits.Number(append(l[1:13:13], make([]bool, 20)...))
}

// single are extended frames whose IDs have one 1, or one 0.
func single() []api.Frame {
	var l []api.Frame
	for place := range 29 {
		for _, id := range []uint32{1 << place, api.MaxExt &^ (1 << place)} {
			l = append(l, samples.Made(id, true, false, 3), samples.Made(id, true, true, 3))
		}
	}
	return l
}

func TestKeysAreWhatArbitrationSees(t *testing.T) {
	l := append(samples.Right(), single()...)
	for id := range uint32(api.MaxBase + 1) {
		l = append(l, base(id), api.Frame{ID: id, Remote: true})
		l = append(l, api.Frame{ID: id << 18, Ext: true}, api.Frame{ID: id << 7, Ext: true, Remote: true}, api.Frame{ID: id, Ext: true})
	}
	for _, f := range l {
		if key, want := mail.Key(f), seen(t, f); key != want {
			t.Fatalf("Key(%v) is %#b, not %#b", f, key, want)
		}
	}
}

// Neither the data nor how many they are count.
func TestKeysHangOnTheHeadAlone(t *testing.T) {
	for _, ext := range []bool{false, true} {
		for _, remote := range []bool{false, true} {
			want := mail.Key(api.Frame{ID: 0x2f1, Ext: ext, Remote: remote})
			for dlc := range uint8(16) {
				if f := samples.Made(0x2f1, ext, remote, dlc); mail.Key(f) != want {
					t.Errorf("Key(%v) is %#x, not %#x", f, mail.Key(f), want)
				}
			}
		}
	}
}

// P10.5: of two right frames the one with the lower key wins.
func TestTheLowerKeyWins(t *testing.T) {
	l := append(samples.Right(), single()...)
	for _, a := range l {
		for _, b := range l {
			if lower := mail.Key(a) < mail.Key(b); lower != frame.Before(a, b) {
				t.Fatalf("the key of %v is below that of %v: %v", a, b, lower)
			}
		}
	}
}
