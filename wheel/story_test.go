package wheel_test

import (
	"math/rand/v2"
	"slices"
	"testing"

	"jackstay/api"
	"jackstay/rows"
	"jackstay/wheel"
)

// The chapter, told once more by P13.4: by what was last said of each number, and without
// removing what was due. Wheels of unlike numbers of slots have one story.

// story is a wheel's history.
type story struct {
	most int
	now  int
	last [1024]int // the tick that a number was last set to; 0 if it was cancelled since, or never set
}

func (s *story) left(id int) (int, bool) {
	if id < 0 || id >= len(s.last) || s.last[id] <= s.now {
		return 0, false
	}
	return s.last[id] - s.now, true
}

func (s *story) len() int {
	many := 0
	for _, at := range s.last {
		if at > s.now {
			many++
		}
	}
	return many
}

func (s *story) set(id, after int) api.Errno {
	if id < 0 || id >= len(s.last) || after < 1 || after > far {
		return api.ErrArg
	}
	if _, is := s.left(id); !is && s.len() == s.most {
		return api.ErrFull
	}
	s.last[id] = s.now + after
	return api.OK
}

func (s *story) cancel(id int) bool {
	_, is := s.left(id)
	if is {
		s.last[id] = 0
	}
	return is
}

// latest is the number of the timer that is due after all others, or 0.
func (s *story) latest() int {
	id := 0
	for other, at := range s.last {
		if at > s.last[id] {
			id = other
		}
	}
	return id
}

func (s *story) tick() []int {
	s.now++
	var l []int
	for id, at := range s.last {
		if at == s.now {
			l = append(l, id)
		}
	}
	return l
}

// group is wheels that are alike but for their slots, and their story.
type group struct {
	slots  []int
	wheels []*wheel.Wheel
	s      story
}

func newGroup(t *testing.T, most int, slots ...int) *group {
	g := &group{slots: slots, s: story{most: most}}
	for _, n := range slots {
		g.wheels = append(g.wheels, made(t, n, most))
	}
	return g
}

// set, cancel and tick do so with all, and report what came of it.

func (g *group) set(t *testing.T, id, after int) api.Errno {
	t.Helper()
	want := g.s.set(id, after)
	for i, w := range g.wheels {
		if e := w.Set(id, after); e != want {
			t.Fatalf("slots %d, room %d, at %d: Set(%d, %d) is error %d, not %d", g.slots[i], g.s.most, g.s.now, id, after, e, want)
		}
	}
	g.check(t, id)
	return want
}

func (g *group) cancel(t *testing.T, id int) bool {
	t.Helper()
	want := g.s.cancel(id)
	for i, w := range g.wheels {
		if was := w.Cancel(id); was != want {
			t.Fatalf("slots %d, room %d, at %d: Cancel(%d) is %v", g.slots[i], g.s.most, g.s.now, id, was)
		}
	}
	g.check(t, id)
	return want
}

func (g *group) tick(t *testing.T) []int {
	t.Helper()
	want := g.s.tick()
	for i, w := range g.wheels {
		if got := w.Tick(); !slices.Equal(got, want) {
			t.Fatalf("slots %d, room %d: Tick to %d is %v, not %v", g.slots[i], g.s.most, g.s.now, got, want)
		}
	}
	g.check(t, want...)
	return want
}

// check holds what can be asked of the wheels, and of these numbers, to the story.
func (g *group) check(t *testing.T, ids ...int) {
	t.Helper()
	many := g.s.len()
	for i, w := range g.wheels {
		if now, n := w.Now(), w.Len(); now != g.s.now || n != many {
			t.Fatalf("slots %d, room %d: the time is %d, not %d; Len is %d, not %d", g.slots[i], g.s.most, now, g.s.now, n, many)
		}
		for _, id := range ids {
			n, is := w.Left(id)
			if want, was := g.s.left(id); n != want || is != was {
				t.Fatalf("slots %d, room %d, at %d: Left(%d) is %d, %v, not %d, %v", g.slots[i], g.s.most, g.s.now, id, n, is, want, was)
			}
		}
	}
}

// All short runs: a letter sets a number 1, 2 or 3 ticks ahead, or cancels it, or is a
// tick.
func TestAllShortRuns(t *testing.T) {
	ids := []int{6, 1000}
	for run := range rows.Lists([]byte("abcxABCXt"), 5) {
		for most := 1; most <= 2; most++ {
			g := newGroup(t, most, 1, 2, 3, 5)
			for _, letter := range run {
				switch letter {
				case 'a', 'b', 'c':
					g.set(t, ids[0], int(letter-'a')+1)
				case 'A', 'B', 'C':
					g.set(t, ids[1], int(letter-'A')+1)
				case 'x':
					g.cancel(t, ids[0])
				case 'X':
					g.cancel(t, ids[1])
				default:
					g.tick(t)
				}
			}
			for range 5 {
				g.check(t, ids...)
				g.tick(t)
			}
		}
	}
}

// ahead is how far a timer is set, mostly not far, but so far that a wheel with that much
// room gets full; sometimes it is wrong.
func ahead(r *rand.Rand, most int) int {
	switch r.IntN(12) {
	case 0:
		return r.IntN(5) - 2
	case 1:
		return far - 2 + r.IntN(5)
	case 2, 3, 4:
		return 1 + r.IntN(5000)
	default:
		return 1 + r.IntN(20+most)
	}
}

// some is a number, mostly one of those that there is room for; sometimes it is wrong.
func some(r *rand.Rand, most int) int {
	switch r.IntN(20) {
	case 0:
		return []int{-1, 0, 1023, 1024}[r.IntN(4)]
	case 1, 2, 3:
		return r.IntN(1024)
	default:
		return r.IntN(min(most, 1023) + 1)
	}
}

// Long runs: wheels are full, and without timers, or nearly so, again and again.
func TestLongRuns(t *testing.T) {
	all := numbers(-1, 1025)
	for seed, most := range []int{0, 1, 2, 3, 10, 64, 300, 1023, 1024} {
		r := rand.New(rand.NewPCG(13, uint64(seed)))
		g := newGroup(t, most, 1, 2, 3, 7, 64, 1000, 1023, 1024)
		turns, due, fills := 0, 0, true
		for round := range 20000 {
			switch n := r.IntN(20); {
			case fills && n < 18, n < 2:
				g.set(t, some(r, most), ahead(r, most))
			case fills && n < 19:
				g.cancel(t, some(r, most))
			case !fills && n < 8:
				g.cancel(t, g.s.latest())
			default:
				due += len(g.tick(t))
			}
			if many := g.s.len(); fills && many >= most-most/4 || !fills && many <= most/4 {
				fills = !fills
				turns++
			}
			if round%400 == 0 {
				g.check(t, all...)
			}
		}
		if turns < 4 || due < 200 && most > 0 {
			t.Errorf("with room for %d it was full, or empty, in turn %d times, and %d were due", most, turns, due)
		}
	}
}
