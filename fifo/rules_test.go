package fifo_test

import (
	"math"
	"math/rand"
	"runtime"
	"slices"
	"testing"
	"testing/quick"
	"weak"

	"jackstay/api"
	"jackstay/fifo"
	"jackstay/samples"
)

// The rules that hold everywhere, R1 to R7, as far as they touch this layer. It has no
// texts (R6, R7); the only number that can be wrong is the room (P12.1).

// none are fifos that are nil, or that New did not return: also copies of one that has
// frames, and of one that is full, with the flag set.
func none(t *testing.T) map[string]*fifo.Fifo {
	q := made(t, 3)
	push(t, q, 0, 2)
	some := *q
	push(t, q, 2, 3)
	rejects(t, q, came(3))
	full := *q
	return map[string]*fifo.Fifo{"nil": nil, "a new one": new(fifo.Fifo), "a copy": &some, "a copy of a full one": &full}
}

// R5: what a fifo that is none returns. ErrNil is named before ErrFull.
func TestFifosThatAreNone(t *testing.T) {
	for what, q := range none(t) {
		// More than once, as nothing comes of the calls.
		for range 5 {
			if e := q.Push(came(1)); e != api.ErrNil {
				t.Errorf("%s: Push is error %d", what, e)
			}
			if n := q.Len(); n != 0 {
				t.Errorf("%s: Len is %d", what, n)
			}
			if q.Overrun() || q.Clear() {
				t.Errorf("%s: the flag is set", what)
			}
			if x, ok := q.Pop(); ok || !same(x, api.Rx{}) {
				t.Errorf("%s: Pop is %v, %v", what, x, ok)
			}
		}
	}
}

// R5: a copy leaves the fifo alone that it was made of.
func TestCopiesLeaveFifosAlone(t *testing.T) {
	q := made(t, 3)
	push(t, q, 0, 2)
	for round := range 9 {
		other := *q
		for range 3 {
			other.Pop()
			other.Push(came(99))
			other.Clear()
		}
		flag(t, q, false)
		push(t, q, round+2, round+3)
		full := *q
		full.Push(came(99))
		flag(t, q, false)
		rejects(t, q, came(99))
		full = *q
		full.Clear()
		flag(t, q, true)
		cleared(t, q, true)
		pop(t, q, round, round+1)
	}
	pop(t, q, 9, 11)
	empty(t, q)
}

// R1: every call returns, whatever its arguments are.
func TestEveryCallReturns(t *testing.T) {
	q := made(t, 5)
	in, out := []api.Rx{}, 0
	one := func(x api.Rx, room int, pops bool) bool {
		if _, e := fifo.New(room); e != api.ErrArg && e != api.OK {
			return false
		}
		if q.Len() == 5 || pops && q.Len() > 0 {
			got, ok := q.Pop()
			if !ok || !same(got, in[out]) {
				return false
			}
			out++
		}
		in = append(in, x)
		return q.Push(x) == api.OK
	}
	if e := quick.Check(one, &quick.Config{MaxCount: 5000, Rand: rand.New(rand.NewSource(12))}); e != nil {
		t.Error(e)
	}
}

// R1: so do frames with much more data than may be sent.
func TestLongData(t *testing.T) {
	q := made(t, 2)
	x := api.Rx{Frame: api.Frame{ID: 1, Data: slices.Repeat([]byte("all that came"), 1<<17)}}
	for range 3 {
		accepts(t, q, x)
		accepts(t, q, came(1))
		rejects(t, q, x)
		returns(t, q, x)
		returns(t, q, came(1))
	}
	empty(t, q)
}

// R2: errors, and a false, leave no trace: one fifo that has them, and another one that
// has none, go on alike. Only the flag is set by ErrFull.
func TestErrorsChangeNothing(t *testing.T) {
	q, other := made(t, 3), made(t, 3)
	fail := func() {
		t.Helper()
		if _, e := fifo.New(0); e != api.ErrArg {
			t.Fatalf("New(0) is error %d", e)
		}
		if q.Len() == 0 {
			empty(t, q)
		}
		if q.Len() == 3 {
			rejects(t, q, came(99))
			cleared(t, q, true)
		}
		cleared(t, q, false)
	}
	for round := range 60 {
		for i := range min(round%5, 3-q.Len()) {
			fail()
			accepts(t, q, came(5*round+i))
			accepts(t, other, came(5*round+i))
		}
		fail()
		for range min(round%4, q.Len()) {
			x, _ := other.Pop()
			returns(t, q, x)
			fail()
		}
		if q.Len() != other.Len() || q.Overrun() != other.Overrun() {
			t.Fatalf("round %d: Len is %d, not %d; Overrun is %v", round, q.Len(), other.Len(), q.Overrun())
		}
	}
}

// R3: Push leaves its frame as it is, also behind the end of its data, and with errors;
// nor does that change later.
func TestPushLeavesFramesAsTheyAre(t *testing.T) {
	for _, f := range append(samples.Right(), samples.Wrong()...) {
		f = samples.Roomy(f)
		whole := samples.Whole(f).Data
		want := string(whole)
		q := made(t, 1)
		for range 3 {
			accepts(t, q, api.Rx{Frame: f})
			rejects(t, q, api.Rx{Frame: f})
			x, _ := q.Pop()
			samples.Spoil(x.Frame)
		}
		var no *fifo.Fifo
		no.Push(api.Rx{Frame: f})
		if string(whole) != want {
			t.Fatalf("the data of %v, and what is behind, have become %q", f, whole)
		}
	}
}

// P12.2, R3: what is written over the data behind Push, or into what Pop returned,
// changes no frame of a fifo, and none that came out of it.
func TestDataHaveMemoryOfTheirOwn(t *testing.T) {
	for _, want := range samples.Right() {
		for _, room := range []int{1, 2, 3} {
			q := made(t, room)
			var kept []api.Rx
			for at := range 4 * room {
				f := samples.Roomy(want)
				if q.Len() == room {
					kept = append(kept, returns(t, q, api.Rx{Frame: want, At: at - room}))
				}
				accepts(t, q, api.Rx{Frame: f, At: at})
				rejected := samples.Roomy(want)
				if q.Len() == room {
					rejects(t, q, api.Rx{Frame: rejected})
				}
				samples.Spoil(f)
				samples.Spoil(rejected)
			}
			for at := range room {
				kept = append(kept, returns(t, q, api.Rx{Frame: want, At: 3*room + at}))
			}
			for i, x := range kept {
				if !same(x, api.Rx{Frame: want, At: i}) {
					t.Fatalf("with room for %d the %dth one that came out has become %v", room, i, x)
				}
				samples.Spoil(x.Frame)
			}
		}
	}
}

// R3: what came out may be written over while others wait.
func TestSpoilingWhatCameOut(t *testing.T) {
	for room := 1; room <= 5; room++ {
		q := made(t, room)
		push(t, q, 0, room)
		for at := room; at < 8*room; at++ {
			x := returns(t, q, came(at-room))
			samples.Spoil(x.Frame)
			accepts(t, q, came(at))
			samples.Spoil(x.Frame)
		}
		pop(t, q, 7*room, 8*room)
	}
}

// R3: with one piece of data for many frames each has its own.
func TestFramesWithTheSameData(t *testing.T) {
	q := made(t, 8)
	data := []byte{0}
	for round := range 5 {
		for i := range 8 {
			data[0] = byte(round + i)
			accepts(t, q, api.Rx{Frame: api.Frame{Dlc: 1, Data: data}})
		}
		for i := range 8 {
			x := returns(t, q, api.Rx{Frame: api.Frame{Dlc: 1, Data: []byte{byte(round + i)}}})
			samples.Spoil(x.Frame)
		}
	}
}

// R4: what a fifo returns hangs on its own history alone, not on other fifos.
func TestFifosAreApart(t *testing.T) {
	var all []*pair
	for _, room := range []int{1, 2, 3, 3, 256} {
		all = append(all, newPair(t, room))
	}
	r := rand.New(rand.NewSource(4))
	for range 5000 {
		all[r.Intn(len(all))].do(t, "iiiooc"[r.Intn(6)])
	}
}

// R4: nor on a capacity.
func TestCapacityDoesNotMatter(t *testing.T) {
	q, whole := made(t, 2), []byte{1, 2, 3}
	for _, data := range [][]byte{whole[:2], whole[:2:2], whole[:2]} {
		accepts(t, q, api.Rx{Frame: api.Frame{Data: data}})
		x := returns(t, q, api.Rx{Frame: api.Frame{Data: []byte{1, 2}}})
		samples.Spoil(x.Frame)
	}
}

// R6: no data are as good as nil.
func TestEmptyIsNil(t *testing.T) {
	q := made(t, 3)
	for range 3 {
		for _, data := range [][]byte{nil, {}, make([]byte, 0, 8)} {
			accepts(t, q, api.Rx{Frame: api.Frame{ID: 5, Data: data}, At: 9})
		}
		for range 3 {
			returns(t, q, api.Rx{Frame: api.Frame{ID: 5}, At: 9})
		}
	}
}

// Nothing more is kept than the frames that wait: the data of one that came out are gone
// with it, wherever it was in the fifo's memory.
func TestNothingIsKept(t *testing.T) {
	for room := 1; room <= 4; room++ {
		q := made(t, room)
		for has := 1; has <= room; has++ {
			for range has {
				accepts(t, q, large())
			}
			for range 5 * room {
				gone := trace(t, q)
				runtime.GC()
				if gone.Value() != nil {
					t.Fatalf("with room for %d, and %d frames, one that came out is kept", room, has)
				}
				accepts(t, q, large())
			}
			for range has {
				q.Pop()
			}
		}
	}
}

// large is a frame with so many data that they don't share a place with others.
func large() api.Rx { return api.Rx{Frame: api.Frame{Data: make([]byte, 4096)}} }

// trace pops a frame, and returns what tells whether something still has its data.
func trace(t *testing.T, q *fifo.Fifo) weak.Pointer[byte] {
	x, ok := q.Pop()
	if !ok || len(x.Frame.Data) == 0 {
		t.Fatalf("Pop is %v, %v", x, ok)
	}
	return weak.Make(&x.Frame.Data[0])
}

// The memory of a fifo does not grow, however long frames go round.
func TestMemoryStays(t *testing.T) {
	for _, room := range []int{1, 2, 3, 255, 256} {
		for _, has := range []int{0, room / 2, room - 1} {
			q := made(t, room)
			for at := range has {
				accepts(t, q, api.Rx{At: at})
			}
			rounds := func() {
				for range 9 * room {
					q.Push(api.Rx{At: math.MaxInt})
					q.Pop()
				}
			}
			// The average is rounded down, so that each run has many rounds.
			if n := testing.AllocsPerRun(10, rounds); n != 0 {
				t.Errorf("with room for %d, and %d frames, more take %v pieces of memory", room, has, n)
			}
		}
	}
}
