package fifo_test

import (
	"math/rand/v2"
	"testing"

	"jackstay/api"
	"jackstay/fifo"
	"jackstay/rows"
)

// The chapter, told once more by P12.3: by the times of all that ever came, and not by
// the frames that are there.

// story is a fifo's history; each call has a number, from 1 on.
type story struct {
	room     int
	calls    int
	taken    []int // the numbers of the pushes that were not rejected, in order
	popped   int   // how many of these came out
	rejected int   // the number of the last push that was rejected, or 0
	reset    int   // the number of the last Clear, or 0
}

func (s *story) len() int      { return len(s.taken) - s.popped }
func (s *story) overrun() bool { return s.rejected > s.reset }

func (s *story) push() api.Errno {
	s.calls++
	if s.len() == s.room {
		s.rejected = s.calls
		return api.ErrFull
	}
	s.taken = append(s.taken, s.calls)
	return api.OK
}

func (s *story) pop() (api.Rx, bool) {
	s.calls++
	if s.len() == 0 {
		return api.Rx{}, false
	}
	s.popped++
	return came(s.taken[s.popped-1]), true
}

func (s *story) clear() bool {
	s.calls++
	was := s.overrun()
	s.reset = s.calls
	return was
}

// pair is a fifo and its story.
type pair struct {
	q    *fifo.Fifo
	s    story
	told []byte // what was done, as letters
}

func newPair(t *testing.T, room int) *pair {
	return &pair{q: made(t, room), s: story{room: room}}
}

// do does one of these with both: i puts a frame in, o takes one out, c clears.
func (p *pair) do(t *testing.T, letter byte) {
	t.Helper()
	p.told = append(p.told, letter)
	switch letter {
	case 'i':
		x := came(p.s.calls + 1)
		if e, want := p.q.Push(x), p.s.push(); e != want {
			t.Fatalf("%q, room %d: Push is error %d, not %d", p.told, p.s.room, e, want)
		}
	case 'o':
		x, ok := p.q.Pop()
		if want, is := p.s.pop(); !same(x, want) || ok != is {
			t.Fatalf("%q, room %d: Pop is %v, %v, not %v, %v", p.told, p.s.room, x, ok, want, is)
		}
	default:
		if was, want := p.q.Clear(), p.s.clear(); was != want {
			t.Fatalf("%q, room %d: Clear is %v", p.told, p.s.room, was)
		}
	}
	if n, set := p.q.Len(), p.q.Overrun(); n != p.s.len() || set != p.s.overrun() {
		t.Fatalf("%q, room %d: Len is %d, not %d; Overrun is %v", p.told, p.s.room, n, p.s.len(), set)
	}
}

// All short runs, and all longer ones without Clear.
func TestAllShortRuns(t *testing.T) {
	for _, x := range []struct {
		letters string
		many    int
	}{{"ioc", 9}, {"io", 13}} {
		for run := range rows.Lists([]byte(x.letters), x.many) {
			for room := 1; room <= 4; room++ {
				p := newPair(t, room)
				for _, letter := range run {
					p.do(t, letter)
				}
			}
		}
	}
}

// Long runs: a fifo is full, and empty again, and again.
func TestLongRuns(t *testing.T) {
	for seed, room := range []int{1, 2, 3, 4, 5, 7, 16, 127, 128, 129, 254, 255, 256} {
		r := rand.New(rand.NewPCG(12, uint64(seed)))
		p := newPair(t, room)
		turns, fills := 0, true
		for range 40000 {
			switch n := r.IntN(20); {
			case n == 0:
				p.do(t, 'c')
			case (n < 14) == fills:
				p.do(t, 'i')
			default:
				p.do(t, 'o')
			}
			if many := p.s.len(); fills && many == room || !fills && many == 0 {
				fills = !fills
				turns++
			}
		}
		if turns < 20 || p.s.popped < 40*room || p.s.rejected == 0 {
			t.Errorf("with room for %d it was full, or empty, in turn %d times, and %d frames came out", room, turns, p.s.popped)
		}
	}
}
