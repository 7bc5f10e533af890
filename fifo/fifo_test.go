package fifo_test

import (
	"math"
	"testing"

	"jackstay/api"
	"jackstay/fifo"
	"jackstay/samples"
)

// The chapter's example.
func TestExample(t *testing.T) {
	a, b, c, d := came(1), came(2), came(3), came(4)
	q := made(t, 2)
	accepts(t, q, a)
	accepts(t, q, b)
	rejects(t, q, c)
	returns(t, q, a)
	accepts(t, q, d)
	returns(t, q, b)
	returns(t, q, d)
	empty(t, q)
	cleared(t, q, true)
}

// P12.1: fifos without frames.

func TestNew(t *testing.T) {
	for room := 1; room <= 256; room++ {
		q := made(t, room)
		empty(t, q)
		flag(t, q, false)
		cleared(t, q, false)
		empty(t, q)
	}
}

func TestNewOfWrongRoom(t *testing.T) {
	for _, room := range []int{math.MinInt, -257, -256, -2, -1, 0, 257, 258, 512, 1<<16 + 1, 1<<32 + 1, math.MaxInt} {
		if q, e := fifo.New(room); q != nil || e != api.ErrArg {
			t.Errorf("New(%d) is %v, error %d", room, q, e)
		}
	}
}

// P12.2: frames are pushed, and popped.

// A fifo has as many frames as there is room for, and no more.
func TestFull(t *testing.T) {
	for room := 1; room <= 256; room++ {
		q := made(t, room)
		for at := range room {
			if n := q.Len(); n != at {
				t.Fatalf("with room for %d Len is %d, not %d", room, n, at)
			}
			accepts(t, q, came(at))
			flag(t, q, false)
		}
		for range 3 {
			rejects(t, q, came(room))
		}
		pop(t, q, 0, room)
		empty(t, q)
		flag(t, q, true)
	}
}

// A frame that is popped makes room for one, and nothing else does.
func TestRoomAgain(t *testing.T) {
	for room := 1; room <= 256; room++ {
		q := made(t, room)
		push(t, q, 0, room)
		rejects(t, q, came(-1))
		cleared(t, q, true)
		rejects(t, q, came(-2))
		for gone := range 2*room + 1 {
			returns(t, q, came(gone))
			accepts(t, q, came(room+gone))
			rejects(t, q, came(-3))
		}
		pop(t, q, 2*room+1, 3*room+1)
		empty(t, q)
	}
}

// One that is full is emptied, and filled again, and again.
func TestFullAgain(t *testing.T) {
	for _, room := range []int{1, 2, 3, 4, 5, 127, 128, 129, 254, 255, 256} {
		q := made(t, room)
		for round := range 20 {
			first := round * room
			push(t, q, first, first+room)
			rejects(t, q, came(0))
			pop(t, q, first, first+room)
			empty(t, q)
			cleared(t, q, true)
		}
	}
}

// So it is when it is emptied, or filled, in part alone.
func TestFilledInParts(t *testing.T) {
	for _, room := range []int{2, 3, 4, 7, 255, 256} {
		for _, part := range []int{1, 2, room/2 + 1, room - 1, room} {
			q := made(t, room)
			in, out := 0, 0
			for range 6 * room {
				more := min(part, room-q.Len())
				push(t, q, in, in+more)
				in += more
				less := min(part/2+1, q.Len())
				pop(t, q, out, out+less)
				out += less
			}
			flag(t, q, false)
			pop(t, q, out, in)
			empty(t, q)
		}
	}
}

// However many frames it has, they go round many times.
func TestGoesRound(t *testing.T) {
	rooms := []int{254, 255, 256}
	for room := 1; room <= 24; room++ {
		rooms = append(rooms, room)
	}
	for _, room := range rooms {
		for _, has := range levels(room) {
			q := made(t, room)
			push(t, q, 0, has)
			for at := has; at < has+7*room; at++ {
				// One that is full has to be popped first.
				if has < room {
					accepts(t, q, came(at))
				}
				returns(t, q, came(at-has))
				if has == room {
					accepts(t, q, came(at))
				}
			}
			flag(t, q, false)
			pop(t, q, 7*room, has+7*room)
			empty(t, q)
		}
	}
}

// levels are how many frames a fifo is to have: each number for small rooms.
func levels(room int) []int {
	if room > 24 {
		return []int{0, 1, 2, room/2 - 1, room / 2, room/2 + 1, room - 2, room - 1, room}
	}
	var l []int
	for has := range room + 1 {
		l = append(l, has)
	}
	return l
}

// Frames of all kinds, whether they are right or not, come out as they went in.
func TestFramesComeOut(t *testing.T) {
	all := append(samples.Right(), samples.Wrong()...)
	for _, room := range []int{1, 2, 3, 256} {
		q := made(t, room)
		for i, f := range all {
			if i >= room {
				returns(t, q, api.Rx{Frame: all[i-room], At: i - room})
			}
			accepts(t, q, api.Rx{Frame: f, At: i})
		}
		for i := len(all) - room; i < len(all); i++ {
			returns(t, q, api.Rx{Frame: all[i], At: i})
		}
		empty(t, q)
	}
}

// Times are whatever they are, and don't change the order.
func TestTimes(t *testing.T) {
	times := []int{0, math.MaxInt, -1, math.MinInt, 7, 7, 1 << 40, 1<<32 + 7, 3}
	q := made(t, len(times))
	for _, at := range times {
		accepts(t, q, api.Rx{At: at})
	}
	for _, at := range times {
		returns(t, q, api.Rx{At: at})
	}
	empty(t, q)
}

// A zero frame is one like all others.
func TestZeroFrames(t *testing.T) {
	q := made(t, 2)
	for range 5 {
		accepts(t, q, api.Rx{})
		accepts(t, q, api.Rx{})
		rejects(t, q, api.Rx{})
		returns(t, q, api.Rx{})
		returns(t, q, api.Rx{})
		empty(t, q)
	}
}

// The flag is set by what is rejected, and reset by Clear, and stays otherwise.
func TestFlag(t *testing.T) {
	for _, room := range []int{1, 2, 3, 255, 256} {
		q := made(t, room)
		push(t, q, 0, room)
		flag(t, q, false)
		cleared(t, q, false)
		for round := range 3 {
			rejects(t, q, came(0))
			rejects(t, q, came(1))
			flag(t, q, true)
			pop(t, q, round*room, round*room+room)
			flag(t, q, true)
			empty(t, q)
			flag(t, q, true)
			push(t, q, round*room+room, round*room+2*room)
			flag(t, q, true)
			cleared(t, q, true)
			flag(t, q, false)
		}
		// It is cleared while there is no room, too, and set by the next one.
		rejects(t, q, came(0))
		cleared(t, q, true)
		rejects(t, q, came(0))
		cleared(t, q, true)
		pop(t, q, 3*room, 4*room)
		empty(t, q)
		flag(t, q, false)
	}
}

// Clear leaves the frames as they are, whether the flag was set or not.
func TestClearKeepsFrames(t *testing.T) {
	q := made(t, 3)
	push(t, q, 0, 2)
	cleared(t, q, false)
	push(t, q, 2, 3)
	rejects(t, q, came(9))
	cleared(t, q, true)
	rejects(t, q, came(9))
	pop(t, q, 0, 1)
	cleared(t, q, true)
	push(t, q, 3, 4)
	pop(t, q, 1, 4)
	empty(t, q)
}
