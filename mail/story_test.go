package mail_test

import (
	"math/rand/v2"
	"strconv"
	"testing"

	"jackstay/api"
	"jackstay/frame"
	"jackstay/mail"
	"jackstay/samples"
)

// The chapter, told once more: what became of each frame that was ever put, in place of
// those that wait. Which one is best is told by the bits of arbitration, not by keys.

// Fates of a frame.
const (
	isWaiting = iota
	isOnWire
	isAborted // on the wire
	isSent
	isGone
)

// story is a mail's history: its frames by their numbers, from 1 on, and their fates.
type story struct {
	room   int
	frames []api.Frame
	fates  []int
}

func (s *story) waits(n int) bool {
	return n >= 1 && n <= len(s.fates) && s.fates[n-1] != isSent && s.fates[n-1] != isGone
}

func (s *story) len() int {
	many := 0
	for i := range s.fates {
		if s.waits(i + 1) {
			many++
		}
	}
	return many
}

func (s *story) put(f api.Frame) (int, api.Errno) {
	if s.len() == s.room {
		return 0, api.ErrFull
	}
	s.frames, s.fates = append(s.frames, f), append(s.fates, isWaiting)
	return len(s.fates), api.OK
}

// onWire is the number of the one on the wire, or 0.
func (s *story) onWire() int {
	for i, fate := range s.fates {
		if fate == isOnWire || fate == isAborted {
			return i + 1
		}
	}
	return 0
}

// best is the number of the one on the wire, or of the best one; 0 if none waits.
func (s *story) best() int {
	if n := s.onWire(); n != 0 {
		return n
	}
	best := 0
	for i, f := range s.frames {
		if s.waits(i+1) && (best == 0 || frame.Before(f, s.frames[best-1])) {
			best = i + 1
		}
	}
	return best
}

func (s *story) start() int {
	n := s.best()
	if n != 0 && s.fates[n-1] == isWaiting {
		s.fates[n-1] = isOnWire
	}
	return n
}

func (s *story) lost() {
	n := s.onWire()
	switch {
	case n == 0:
	case s.fates[n-1] == isAborted:
		s.fates[n-1] = isGone
	default:
		s.fates[n-1] = isWaiting
	}
}

func (s *story) sent() int {
	n := s.onWire()
	if n != 0 {
		s.fates[n-1] = isSent
	}
	return n
}

func (s *story) abort(n int) (bool, api.Errno) {
	switch {
	case !s.waits(n):
		return false, api.ErrMail
	case n == s.onWire():
		s.fates[n-1] = isAborted
		return false, api.OK
	}
	s.fates[n-1] = isGone
	return true, api.OK
}

// pair is a mail and its story.
type pair struct {
	m    *mail.Mail
	s    story
	told string       // what was done, as letters
	sent map[int]bool // the numbers that were sent
}

func newPair(t *testing.T, room int) *pair {
	return &pair{m: made(t, room), s: story{room: room}, sent: map[int]bool{}}
}

// put puts a frame into both, which is told as a letter.
func (p *pair) put(t *testing.T, letter string, f api.Frame) {
	t.Helper()
	p.told += letter
	n, e := p.m.Put(f)
	if want, says := p.s.put(f); n != want || e != says {
		t.Fatalf("%q, room %d: Put is %d, error %d, not %d, error %d", p.told, p.s.room, n, e, want, says)
	}
}

// abort aborts a number in both.
func (p *pair) abort(t *testing.T, n int) {
	t.Helper()
	p.told += strconv.Itoa(n) + " "
	gone, e := p.m.Abort(n)
	if want, says := p.s.abort(n); gone != want || e != says {
		t.Fatalf("%q, room %d: Abort is %v, error %d, not %v, error %d", p.told, p.s.room, gone, e, want, says)
	}
}

// do does one of these with both: s starts, e is the end of sending, l is lost.
func (p *pair) do(t *testing.T, letter byte) {
	t.Helper()
	p.told += string(letter)
	var n, want int
	var ok bool
	switch letter {
	case 's':
		n, ok = p.m.Start()
		want = p.s.start()
	case 'e':
		n, ok = p.m.Sent()
		want = p.s.sent()
		if ok && p.sent[n] {
			t.Fatalf("%q, room %d: %d is sent twice", p.told, p.s.room, n)
		}
		p.sent[n] = p.sent[n] || ok
	default:
		p.m.Lost()
		p.s.lost()
	}
	if n != want || ok != (want != 0) {
		t.Fatalf("%q, room %d: it is %d, %v, not %d", p.told, p.s.room, n, ok, want)
	}
}

// check holds what can be asked of a mail to its story.
func (p *pair) check(t *testing.T) {
	t.Helper()
	if n := p.m.Len(); n != p.s.len() {
		t.Fatalf("%q, room %d: Len is %d, not %d", p.told, p.s.room, n, p.s.len())
	}
	for n := -1; n <= len(p.s.fates)+1; n++ {
		if is := p.m.Waits(n); is != p.s.waits(n) {
			t.Fatalf("%q, room %d: %d waits: %v", p.told, p.s.room, n, is)
		}
	}
	want := p.s.best()
	var f api.Frame
	if want != 0 {
		f = p.s.frames[want-1]
	}
	if n, got, ok := p.m.Best(); n != want || ok != (want != 0) || !samples.Same(got, f) {
		t.Fatalf("%q, room %d: Best is %d, %v, %v, not %d, %v", p.told, p.s.room, n, got, ok, want, f)
	}
}

// All short runs: a and b have one key, c has a lower one.
func TestAllShortRuns(t *testing.T) {
	const moves, long = "abcsel123", 6
	frames := []api.Frame{with(5, 1), with(5, 2), base(3)}
	all := 1
	for range long {
		all *= len(moves)
	}
	for room := 1; room <= 3; room++ {
		for which := range all {
			p := newPair(t, room)
			for range long {
				move := moves[which%len(moves)]
				which /= len(moves)
				switch {
				case move <= '9':
					p.abort(t, int(move-'0'))
				case move <= 'c':
					p.put(t, string(move), frames[move-'a'])
				default:
					p.do(t, move)
				}
			}
			p.check(t)
		}
	}
}

// Long runs with frames of all kinds, several of one key among them; a mail is full, and
// without frames again, and again.
func TestLongRuns(t *testing.T) {
	frames := append(samples.Some(), with(0x123, 1), with(0x123, 2), base(0x17), base(0x17))
	for seed, room := range []int{1, 2, 3, 4, 5, 7, 16, 64, 255, 256} {
		r := rand.New(rand.NewPCG(10, uint64(seed)))
		p := newPair(t, room)
		turns, fills := 0, true
		for range 6000 {
			switch n := r.IntN(12); {
			case n < 6 && fills, n < 1:
				which := r.IntN(len(frames))
				p.put(t, string(rune('A'+which)), frames[which])
			case n < 6:
				p.do(t, "se"[n%2])
			case n < 10:
				p.do(t, "sesl"[n-6])
			default:
				p.abort(t, r.IntN(len(p.s.fates)+2))
			}
			p.check(t)
			if many := p.s.len(); fills && many == room || !fills && many == 0 {
				fills = !fills
				turns++
			}
		}
		if turns < 3 || len(p.sent) < 400 {
			t.Errorf("with room for %d it was full, or without frames, in turn %d times; %d were sent", room, turns, len(p.sent))
		}
	}
}
