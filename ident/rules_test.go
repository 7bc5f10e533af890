package ident_test

import (
	"bytes"
	"math"
	"math/rand"
	"testing"
	"testing/quick"

	"jackstay/api"
	"jackstay/ident"
	"jackstay/samples"
)

// The rules that hold everywhere, R1 to R7, as far as they touch this layer. It has no
// objects (R5); its data are bytes, and none of them is special (R7).

// R1, R2: every call has a result, whatever it is given, and it is the right one; beside
// an error, and beside a false, the others are zero.
func TestEveryCallHasAResult(t *testing.T) {
	check := func(a, b api.Ident, id uint32, f api.Frame) bool {
		want := api.OK
		if !right(a) {
			want = api.ErrIdent
		}
		if made, e := ident.Make(a); e != want || e == api.OK && made != identifier(a) || e != api.OK && made != 0 {
			return false
		}
		if want == api.OK && len(f.Data) > 8 {
			want = api.ErrLong
		}
		got, e := ident.Frame(a, f.Data)
		if e != want || (e == api.OK) == samples.Same(got, api.Frame{}) {
			return false
		}
		reads(t, id)
		means(t, f)
		orders(t, a, b)
		return ident.Right(a) == right(a)
	}
	if err := quick.Check(check, &quick.Config{MaxCount: 20000, Rand: rand.New(rand.NewSource(15))}); err != nil {
		t.Error(err)
	}
}

// R2: the calls after an error, or a false, are as if it had not been.
func TestErrorsChangeNothing(t *testing.T) {
	for round := range 3 {
		if id, e := ident.Make(of(10, 2, 3, 4)); id != 0 || e != api.ErrIdent {
			t.Errorf("round %d: Make is %d, error %d", round, id, e)
		}
		refuses(t, of(1, 32, 3, 4), nil, api.ErrIdent)
		refuses(t, of(1, 2, 3, 4), samples.Data(9), api.ErrLong)
		if i, ok := ident.Read(math.MaxUint32); i != (api.Ident{}) || ok {
			t.Errorf("round %d: Read is %v, %v", round, i, ok)
		}
		if i, ok := ident.Of(api.Frame{ID: 5}); i != (api.Ident{}) || ok {
			t.Errorf("round %d: Of is %v, %v", round, i, ok)
		}
		as(t, round)
	}
}

// as holds everything to the results of the chapter's examples.
func as(t *testing.T, round int) {
	t.Helper()
	if id := made(t, of(1, 2, 3, 4)); id != 35651636 {
		t.Errorf("round %d: Make is %d", round, id)
	}
	if i, ok := ident.Read(35651636); i != of(1, 2, 3, 4) || !ok {
		t.Errorf("round %d: Read is %v, %v", round, i, ok)
	}
	f := framed(t, of(1, 2, 3, 4), []byte{1, 2})
	if !samples.Same(f, api.Frame{ID: 35651636, Ext: true, Dlc: 2, Data: []byte{1, 2}}) {
		t.Errorf("round %d: Frame is %v", round, f)
	}
	if i, ok := ident.Of(f); i != of(1, 2, 3, 4) || !ok {
		t.Errorf("round %d: Of is %v, %v", round, i, ok)
	}
	if !ident.Right(of(1, 2, 3, 4)) || !ident.Less(of(1, 2, 3, 4), of(1, 2, 4, 0)) || ident.Less(of(1, 2, 4, 0), of(1, 2, 3, 4)) {
		t.Errorf("round %d: Right or Less is another one", round)
	}
}

// R3: data of an argument, and what is behind their end, stay as they are.
func TestArgumentsStayAsTheyAre(t *testing.T) {
	room := samples.Data(11)
	for many := range 12 {
		ident.Frame(of(1, 2, 3, 4), room[:many])
		ident.Frame(of(10, 2, 3, 4), room[:many])
		ident.Of(api.Frame{ID: 35651636, Ext: true, Dlc: uint8(many), Data: room[:many]})
		if !bytes.Equal(room, samples.Data(11)) {
			t.Fatalf("with %d of them the data have become %v", many, room)
		}
	}
}

// R3: results share no memory with each other, in their spare capacity neither.
func TestResultsAreNew(t *testing.T) {
	for many := range 9 {
		data := samples.Data(many)
		one, other := framed(t, of(1, 2, 3, 4), data), framed(t, of(1, 2, 3, 4), data)
		before := bytes.Clone(samples.Whole(other).Data)
		samples.Spoil(one)
		if !bytes.Equal(samples.Whole(other).Data, before) || !bytes.Equal(data, samples.Data(many)) {
			t.Fatalf("frames with %d bytes share memory", many)
		}
		if f := framed(t, of(1, 2, 3, 4), data); !bytes.Equal(f.Data, data) {
			t.Fatalf("with %v the frame is %v from now on", data, f)
		}
	}
}

// R4: the results hang on the arguments alone, not on the calls before, nor on a
// capacity.
func TestResultsHangOnArgumentsAlone(t *testing.T) {
	r := rand.New(rand.NewSource(4))
	room := []byte{1, 2, 3, 4, 5, 6, 7, 8, 9}
	for round := range 100 {
		i := shuffled(r.Perm, few())[0]
		framed(t, i, samples.Data(r.Intn(9)))
		reads(t, r.Uint32())
		for _, data := range [][]byte{room[:2], room[:2:2]} {
			if f := framed(t, of(1, 2, 3, 4), data); !samples.Same(f, api.Frame{ID: 35651636, Ext: true, Dlc: 2, Data: []byte{1, 2}}) {
				t.Fatalf("round %d: with the capacity %d Frame is %v", round, cap(data), f)
			}
		}
		as(t, round)
	}
}

// R6: no data are as good as nil.
func TestEmptyIsNil(t *testing.T) {
	for _, none := range [][]byte{nil, {}, make([]byte, 0, 8), samples.Data(8)[:0]} {
		f := framed(t, of(1, 2, 3, 4), none)
		if !samples.Same(f, api.Frame{ID: 35651636, Ext: true}) {
			t.Errorf("with no data, nil %v, Frame is %v", none == nil, f)
		}
		f.Data = none
		if i, ok := ident.Of(f); i != of(1, 2, 3, 4) || !ok {
			t.Errorf("with no data, nil %v, Of is %v, %v", none == nil, i, ok)
		}
		refuses(t, of(10, 2, 3, 4), none, api.ErrIdent)
	}
}
