package fifo_test

import (
	"testing"

	"jackstay/api"
	"jackstay/fifo"
	"jackstay/samples"
)

// made is a fifo with that much room.
func made(t *testing.T, room int) *fifo.Fifo {
	t.Helper()
	q, e := fifo.New(room)
	if q == nil || e != api.OK {
		t.Fatalf("New(%d) is %v, error %d", room, q, e)
	}
	return q
}

// came is a frame that came at a time, from 0 on: all differ in their data, too.
func came(at int) api.Rx {
	return api.Rx{Frame: api.Frame{ID: 5, Dlc: 3, Data: []byte{byte(at), byte(at >> 8), byte(at >> 16)}}, At: at}
}

// same reports whether two received frames are.
func same(a, b api.Rx) bool { return a.At == b.At && samples.Same(a.Frame, b.Frame) }

// push pushes the frames that came at the times from the first one on, before the last.
func push(t *testing.T, q *fifo.Fifo, first, last int) {
	t.Helper()
	for at := first; at < last; at++ {
		accepts(t, q, came(at))
	}
}

// accepts holds Push to append a frame.
func accepts(t *testing.T, q *fifo.Fifo, x api.Rx) {
	t.Helper()
	before := q.Len()
	if e := q.Push(x); e != api.OK || q.Len() != before+1 {
		t.Fatalf("Push of %v to %d frames is error %d, and then there are %d", x, before, e, q.Len())
	}
}

// rejects holds Push to have no room, and to set the flag.
func rejects(t *testing.T, q *fifo.Fifo, x api.Rx) {
	t.Helper()
	before := q.Len()
	if e := q.Push(x); e != api.ErrFull || q.Len() != before || !q.Overrun() {
		t.Fatalf("Push of %v to %d frames is error %d, and then there are %d, the flag is %v", x, before, e, q.Len(), q.Overrun())
	}
}

// pop pops the frames that came at the times from the first one on, before the last.
func pop(t *testing.T, q *fifo.Fifo, first, last int) {
	t.Helper()
	for at := first; at < last; at++ {
		returns(t, q, came(at))
	}
}

// returns holds Pop to return a frame, and returns what came out.
func returns(t *testing.T, q *fifo.Fifo, want api.Rx) api.Rx {
	t.Helper()
	before := q.Len()
	x, ok := q.Pop()
	if !ok || !same(x, want) || q.Len() != before-1 {
		t.Fatalf("Pop of %d frames is %v, %v, not %v, and then there are %d", before, x, ok, want, q.Len())
	}
	return x
}

// empty holds a fifo to have no frames.
func empty(t *testing.T, q *fifo.Fifo) {
	t.Helper()
	if n := q.Len(); n != 0 {
		t.Fatalf("Len is %d, not 0", n)
	}
	if x, ok := q.Pop(); ok || !same(x, api.Rx{}) {
		t.Fatalf("there is none, but Pop is %v, %v", x, ok)
	}
	if n := q.Len(); n != 0 {
		t.Fatalf("when none was popped Len is %d, not 0", n)
	}
}

// flag holds the overrun flag to be set, or not; it stays as it is.
func flag(t *testing.T, q *fifo.Fifo, set bool) {
	t.Helper()
	for range 2 {
		if got := q.Overrun(); got != set {
			t.Fatalf("Overrun is %v", got)
		}
	}
}

// cleared holds Clear to tell whether the flag was set, and to reset it.
func cleared(t *testing.T, q *fifo.Fifo, was bool) {
	t.Helper()
	if got := q.Clear(); got != was {
		t.Fatalf("Clear is %v", got)
	}
	flag(t, q, false)
	if q.Clear() {
		t.Fatal("Clear is true once more")
	}
}
