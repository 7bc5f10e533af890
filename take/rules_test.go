package take_test

import (
	"slices"
	"testing"

	"jackstay/api"
	"jackstay/frame"
	"jackstay/rows"
	"jackstay/samples"
	"jackstay/take"
)

// The rules that hold everywhere, R1 to R7, as far as they touch this layer. It has no
// errors, no objects (R5) and no texts; places beyond the end are R7's wrong inputs, and
// the chapter has an answer for them.

// odd are bits that a body may have, and some that none has.
func odd() [][]bool {
	l := [][]bool{nil}
	for _, long := range []int{1, 13, 14, 18, 19, 33, 34, 35, 38, 39, 117, 118, 119, 1000} {
		for _, pattern := range []string{"d", "r", "dr", "ddrrr", "ddddddddddddddr"} {
			l = append(l, slices.Repeat(rows.Of(pattern), long)[:long])
		}
	}
	for _, f := range samples.Some() {
		body, _ := frame.Body(f)
		l = append(l, body, append(slices.Clone(body), true), body[:len(body)-1])
	}
	return l
}

// R1, R2, R7: every state has a result, whatever it is, also one that no bits lead to;
// beside a false the frame is zero.
func TestEveryStateHasAResult(t *testing.T) {
	for _, l := range odd() {
		for place := range 256 {
			for _, row := range []api.Alike{{}, run("ddddd"), run("rrrrr"), {Last: true}, {Many: 6}, {Last: true, Many: 255}} {
				checkResults(t, api.Taking{Row: row, Bits: l, Place: uint8(place)})
				checkResults(t, api.Taking{Row: row, Bits: l, Place: uint8(place), Fits: true})
			}
		}
	}
}

// checkResults calls everything with a state.
func checkResults(t *testing.T, state api.Taking) {
	t.Helper()
	take.Drive(state)
	want, e := frame.Parse(state.Bits)
	if f, ok := take.Frame(state); ok && (e != api.OK || !samples.Same(f, want)) || !ok && !samples.Same(f, api.Frame{}) {
		t.Fatalf("of %v Frame is %v, %v", state, f, ok)
	}
	for _, bit := range []bool{true, false} {
		if next, said := take.Next(state, bit); int(said) >= len(letters) || next.Place < state.Place {
			t.Fatalf("Next(%v, %v) is %v, %d", state, bit, next, said)
		}
	}
}

// R1: long rows are as good as short ones: what is behind a frame does not matter.
func TestLongRows(t *testing.T) {
	f := samples.Made(5, true, false, 8)
	state, _ := read(samples.Wire(f))
	for i := range 1 << 16 {
		next, said := take.Next(state, i%3 == 0)
		if said != api.TakeOver || next.Place != api.PlaceOver || len(next.Bits) != len(state.Bits) {
			t.Fatalf("bit %d behind %v says %d, and is %v", i, f, said, next)
		}
		state = next
	}
	if got, ok := take.Frame(state); !ok || !samples.Same(got, f) {
		t.Errorf("behind many bits Frame is %v, %v", got, ok)
	}
}

// within are states at all places of some frames, also ones that are over too early,
// each with room behind its bits.
func within() []api.Taking {
	var l []api.Taking
	add := func(s string) {
		for long := range len(s) + 1 {
			state, _ := read(s[:long])
			l = append(l, roomy(state))
		}
	}
	for _, f := range []api.Frame{{ID: 1}, {ID: 9}, {ID: 0x123, Dlc: 1, Data: []byte{0xaa}}} {
		s := samples.Wire(f)
		add(s + "rr")
		add(rows.Turned(s, len(s)-11)) // the check sum, or the stuff bit behind it
		add(rows.Turned(s, len(s)-10))
		add(rows.Turned(s, len(s)-1))
	}
	add("dddddddd")
	return l
}

// roomy is the same state, with room behind its bits.
func roomy(state api.Taking) api.Taking {
	room := append(slices.Clone(state.Bits), rows.Of("drdrdrdr")...)
	state.Bits = room[:len(state.Bits)]
	return state
}

// R3: the bits of an argument, and those behind their end, stay as they are.
func TestArgumentsStayAsTheyAre(t *testing.T) {
	for _, state := range within() {
		room := state.Bits[:cap(state.Bits)]
		before := slices.Clone(room)
		for _, bit := range []bool{true, false} {
			take.Next(state, bit)
		}
		take.Drive(state)
		take.Frame(state)
		if !slices.Equal(room, before) {
			t.Fatalf("the bits of %v were %v", state, before)
		}
	}
}

// R3, P7.1: a result is in memory of its own, in its spare capacity too: it stays as it
// is whatever becomes of the argument, and of other results.
func TestResultsAreNew(t *testing.T) {
	for _, state := range within() {
		for _, bit := range []bool{true, false} {
			one, _ := take.Next(state, bit)
			other, _ := take.Next(state, bit)
			third, _ := take.Next(state, !bit)
			keptOther, keptThird, kept := rows.Text(other.Bits), rows.Text(third.Bits), rows.Text(state.Bits)
			rows.Turn(one.Bits[:cap(one.Bits)])
			if rows.Text(other.Bits) != keptOther || rows.Text(third.Bits) != keptThird || rows.Text(state.Bits) != kept {
				t.Fatalf("a result of Next(%v, %v) shares memory", state, bit)
			}
			rows.Turn(state.Bits[:cap(state.Bits)])
			if rows.Text(other.Bits) != keptOther || rows.Text(third.Bits) != keptThird {
				t.Fatalf("a result of Next(%v, %v) shares memory with its argument", state, bit)
			}
			rows.Turn(state.Bits[:cap(state.Bits)])
		}
	}
}

// R3: so are the data of a frame.
func TestFramesAreNew(t *testing.T) {
	for _, f := range samples.Right() {
		state, _ := read(samples.Wire(f))
		one, _ := take.Frame(state)
		other, _ := take.Frame(state)
		clear(one.Data[:cap(one.Data)])
		rows.Turn(state.Bits)
		if !samples.Same(other, f) {
			t.Fatalf("results of Frame share memory: %v has become %v", f, other)
		}
		rows.Turn(state.Bits)
		if again, ok := take.Frame(state); !ok || !samples.Same(again, f) {
			t.Fatalf("a result of Frame shares memory with its argument: it is %v, %v", again, ok)
		}
	}
}

// R4: results hang on the arguments alone: not on the calls before, nor on other frames
// that are read at the same time.
func TestResultsHangOnArgumentsAlone(t *testing.T) {
	frames := samples.Some()
	states := make([]api.Taking, len(frames))
	long := 0
	for _, f := range frames {
		long = max(long, len(samples.Wire(f)))
	}
	for k := range long {
		for i, f := range frames {
			if s := samples.Wire(f); k < len(s) {
				states[i], _ = readOn(states[i], s[k:k+1])
			}
		}
	}
	for i, f := range frames {
		if got, ok := take.Frame(states[i]); !ok || !samples.Same(got, f) {
			t.Errorf("among others Frame of %v is %v, %v", f, got, ok)
		}
	}
	for round := range 3 {
		read("dddddd")
		if state, said := read("dddddr"); said != "mmmmmm" || !same(state, api.Taking{Row: run("r"), Bits: make([]bool, 5)}) {
			t.Errorf("round %d: %q, %v", round, said, state)
		}
	}
}

// R4: nor on a capacity.
func TestCapacityDoesNotMatter(t *testing.T) {
	for _, state := range within() {
		tight := state
		tight.Bits = slices.Clip(slices.Clone(state.Bits))
		for _, bit := range []bool{true, false} {
			one, said := take.Next(state, bit)
			other, again := take.Next(tight, bit)
			if said != again || !same(one, other) {
				t.Fatalf("with the capacity %d Next(%v, %v) is %v, %d, not %v, %d", cap(tight.Bits), state, bit, other, again, one, said)
			}
		}
		f, ok := take.Frame(state)
		if g, is := take.Frame(tight); ok != is || !samples.Same(f, g) || take.Drive(state) != take.Drive(tight) {
			t.Fatalf("with the capacity %d Frame of %v is %v, %v", cap(tight.Bits), state, g, is)
		}
	}
}

// R6: no bits are as good as nil.
func TestEmptyIsNil(t *testing.T) {
	for _, l := range [][]bool{nil, {}, make([]bool, 0, 64), rows.Of("rrrrrr")[:0]} {
		got, said := readOn(api.Taking{Bits: l}, "dr")
		if said != "mm" || !same(got, api.Taking{Row: run("r"), Bits: []bool{false, true}}) {
			t.Errorf("from no bits on, nil %v, it is %v, and says %q", l == nil, got, said)
		}
		if f, ok := take.Frame(api.Taking{Bits: l}); ok || !samples.Same(f, api.Frame{}) || !take.Drive(api.Taking{Bits: l}) {
			t.Errorf("of no bits, nil %v, Frame is %v, %v", l == nil, f, ok)
		}
	}
}
