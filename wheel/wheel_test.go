package wheel_test

import (
	"math"
	"math/rand"
	"testing"

	"jackstay/api"
	"jackstay/wheel"
)

// far is as far ahead as a timer may be set.
const far = 1 << 40

// The chapter's example.
func TestExample(t *testing.T) {
	w := made(t, 4, 2)
	set(t, w, 7, 3)
	set(t, w, 2, 3)
	refuses(t, w, 9, 1, api.ErrFull)
	set(t, w, 7, 1)
	tick(t, w, 7)
	left(t, w, 2, 2)
	tick(t, w)
	tick(t, w, 2)
	w = made(t, 4, 2)
	set(t, w, 2, 3)
	cancel(t, w, 2, true)
	cancel(t, w, 2, false)
}

// P13.1: wheels without timers.

// turns are numbers of slots: all small ones, some others, and those at the edge.
func turns() []int { return append(numbers(1, 18), 63, 64, 65, 1000, 1022, 1023, 1024) }

func TestNew(t *testing.T) {
	for _, slots := range turns() {
		for _, most := range []int{0, 1, 2, 64, 1022, 1023, 1024} {
			w := made(t, slots, most)
			if now := w.Now(); now != 0 {
				t.Errorf("the time of a new wheel is %d", now)
			}
			has(t, w)
			idle(t, w, 3)
			has(t, w)
		}
	}
}

func TestNewOfWrongNumbers(t *testing.T) {
	below := []int{math.MinInt, -1 << 32, -1024, -2, -1}
	above := []int{1025, 1026, 2048, 1<<16 + 1, 1<<32 + 1, math.MaxInt}
	wrong := func(slots, most int) {
		t.Helper()
		if w, e := wheel.New(slots, most); w != nil || e != api.ErrArg {
			t.Errorf("New(%d, %d) is %v, error %d", slots, most, w, e)
		}
	}
	for _, n := range append(below, above...) {
		for _, right := range []int{1, 2, 64, 1023, 1024} {
			wrong(n, right)
			wrong(right, n)
		}
		wrong(n, 0)
		wrong(n, n)
		wrong(0, n)
	}
	for _, most := range []int{0, 1, 1023, 1024} {
		wrong(0, most)
	}
}

// The time is how many ticks there were, whatever timers there are.
func TestNow(t *testing.T) {
	for _, slots := range []int{1, 2, 3, 64, 1024} {
		w := made(t, slots, 4)
		for now := range 3*slots + 5 {
			if got := w.Now(); got != now {
				t.Fatalf("with %d slots the time is %d, not %d", slots, got, now)
			}
			w.Set(now%5, 1+now%7)
			w.Set(now%5, 0)
			w.Cancel(now % 3)
			w.Left(now % 3)
			if got := w.Now(); got != now {
				t.Fatalf("with %d slots the time is %d before the tick, not %d", slots, got, now)
			}
			w.Tick()
		}
	}
}

// P13.2: timers are set, and cancelled.

// There are as many timers as there is room for, and no more; one that is gone, however
// it went, makes room for one.
func TestRoom(t *testing.T) {
	for _, slots := range []int{1, 2, 64, 1024} {
		for _, most := range []int{0, 1, 2, 3, 64, 1022, 1023} {
			w := made(t, slots, most)
			for round := range 3 {
				upTo(t, w, most, 5)
				has(t, w, numbers(0, most)...)
				for _, id := range []int{most, 1022, 1023} {
					if id >= most {
						refuses(t, w, id, 1, api.ErrFull)
						refuses(t, w, id, far, api.ErrFull)
					}
				}
				if most == 0 {
					continue
				}
				cancel(t, w, round%most, true)
				set(t, w, 1023, 4)
				refuses(t, w, round%most, 4, api.ErrFull)
				cancel(t, w, 1023, true)
				set(t, w, round%most, 1)
				tick(t, w, round%most)
				set(t, w, 1023, 4)
				refuses(t, w, round%most, 4, api.ErrFull)
				cancel(t, w, 1023, true)
				upTo(t, w, most, 2)
				idle(t, w, 1)
				tick(t, w, numbers(0, most)...)
			}
		}
	}
}

// With room for all numbers each one may be set, at any time.
func TestAllNumbers(t *testing.T) {
	for _, slots := range []int{1, 3, 1024} {
		w := made(t, slots, 1024)
		for _, after := range []int{4, 9, 2} {
			upTo(t, w, 1024, after)
			has(t, w, numbers(0, 1024)...)
		}
		idle(t, w, 1)
		tick(t, w, numbers(0, 1024)...)
		has(t, w)
		idle(t, w, 10)
	}
}

func TestNumbers(t *testing.T) {
	for _, slots := range []int{1, 2, 1024} {
		w := made(t, slots, 6)
		right := []int{0, 1, 2, 512, 1022, 1023}
		for _, id := range right {
			set(t, w, id, 3)
		}
		for _, id := range []int{math.MinInt, -1024, -1023, -2, -1, 1024, 1025, 2047, 1 << 16, 1<<32 + 1, math.MaxInt} {
			refuses(t, w, id, 3, api.ErrArg)
			cancel(t, w, id, false)
		}
		has(t, w, right...)
		idle(t, w, 2)
		tick(t, w, right...)
		has(t, w)
	}
}

func TestHowFarAhead(t *testing.T) {
	for _, slots := range []int{1, 2, 3, 1023, 1024} {
		w := made(t, slots, 3)
		for range 4 {
			for _, after := range []int{1, 2, 3, 1 << 31, 1 << 32, 1<<32 + 1, far - 1, far} {
				set(t, w, 5, after)
			}
			for _, after := range []int{math.MinInt, -far, -1 << 32, -2, -1, 0, far + 1, far + 2, 1 << 41, far<<1 + 1, math.MaxInt} {
				refuses(t, w, 5, after, api.ErrArg)
				refuses(t, w, 6, after, api.ErrArg)
			}
			left(t, w, 5, far)
			tick(t, w)
			left(t, w, 5, far-1)
		}
		has(t, w, 5)
	}
}

// What is wrong is told before that there is no room.
func TestErrorsInOrder(t *testing.T) {
	for _, most := range []int{0, 1, 7} {
		w := made(t, 4, most)
		upTo(t, w, most, 9)
		for _, x := range [][2]int{{-1, 1}, {1024, 1}, {-1, 0}, {1024, far + 1}, {1023, 0}, {1023, far + 1}, {0, 0}} {
			refuses(t, w, x[0], x[1], api.ErrArg)
		}
		refuses(t, w, 1023, far, api.ErrFull)
		refuses(t, w, 1023, 1, api.ErrFull)
	}
}

// A timer is due at its tick, and at no other one, from wherever it is set: also if that
// is more than a turn of the slots ahead.
func TestDueInTime(t *testing.T) {
	for _, slots := range turns() {
		w := made(t, slots, 1)
		for _, turn := range []int{0, slots, 2 * slots, 5 * slots} {
			for _, more := range []int{-1, 0, 1, 2, slots / 2} {
				after := turn + more
				if after < 1 {
					continue
				}
				set(t, w, 9, after)
				for to := after - 1; to > 0; to-- {
					tick(t, w)
					left(t, w, 9, to)
				}
				tick(t, w, 9)
				cancel(t, w, 9, false)
			}
		}
		idle(t, w, 2*slots+1)
	}
}

// Timers of one slot are due turn by turn, in whatever order they were set.
func TestTurns(t *testing.T) {
	for _, slots := range []int{1, 2, 3, 64, 1023, 1024} {
		for _, order := range [][]int{{1, 2, 3, 4, 5}, {5, 4, 3, 2, 1}, {3, 1, 5, 2, 4}} {
			w := made(t, slots, 5)
			idle(t, w, 7)
			for _, turn := range order {
				set(t, w, 100-turn, turn*slots)
			}
			for turn := 1; turn <= 5; turn++ {
				idle(t, w, slots-1)
				tick(t, w, 100-turn)
			}
			has(t, w)
		}
	}
}

// A timer that is set again, sooner, later, or as it was, is due when it was set last,
// in a full wheel too.
func TestSetAgain(t *testing.T) {
	afters := []int{1, 2, 3, 4, 5, 8, 9, 17}
	for _, slots := range []int{1, 2, 3, 4, 8, 9, 1023, 1024} {
		for _, most := range []int{1, 2} {
			for _, first := range afters {
				for _, again := range afters {
					for between := range min(first, 4) {
						w := made(t, slots, most)
						set(t, w, 6, first)
						if most == 2 {
							set(t, w, 3, far)
						}
						idle(t, w, between)
						set(t, w, 6, again)
						refuses(t, w, 7, 1, api.ErrFull)
						idle(t, w, again-1)
						tick(t, w, 6)
						idle(t, w, 20)
					}
				}
			}
		}
	}
}

// Set again and again it is never due, until it is left alone.
func TestSetAgainAndAgain(t *testing.T) {
	for _, slots := range []int{1, 2, 3, 64, 1024} {
		w := made(t, slots, 2)
		set(t, w, 8, far)
		for round := range 3*slots + 9 {
			set(t, w, 4, 2+round%5)
			tick(t, w)
		}
		set(t, w, 4, 1)
		tick(t, w, 4)
		has(t, w, 8)
	}
}

// One that is cancelled is not due; it may be set anew, sooner, later, or as it was.
func TestCancel(t *testing.T) {
	for _, slots := range []int{1, 2, 3, 4, 5, 1023, 1024} {
		for first := 1; first <= 6; first++ {
			for between := range first {
				w := made(t, slots, 2)
				set(t, w, 6, first)
				set(t, w, 5, 30)
				idle(t, w, between)
				cancel(t, w, 6, true)
				has(t, w, 5)
				for again := 1; again <= 6; again++ {
					set(t, w, 6, again+1)
					cancel(t, w, 6, true)
				}
				idle(t, w, 10)
				for again := 1; again <= 3; again++ {
					set(t, w, 6, again)
					idle(t, w, again-1)
					tick(t, w, 6)
				}
				idle(t, w, 30-between-10-6-1)
				tick(t, w, 5)
				has(t, w)
			}
		}
	}
}

// A timer that was due is gone, and there is none to be cancelled.
func TestWhatWasDueIsGone(t *testing.T) {
	for _, slots := range []int{1, 2, 1024} {
		w := made(t, slots, 1)
		for range 5 {
			set(t, w, 1023, 1)
			tick(t, w, 1023)
			has(t, w)
			cancel(t, w, 1023, false)
			set(t, w, 0, 1)
			tick(t, w, 0)
			cancel(t, w, 0, false)
		}
	}
}

// P13.3: what is due.

// Several that are due at one tick come in increasing order, in whatever order, and
// whenever, they were set; those of the same slot that are due later stay.
func TestSeveralAtOnce(t *testing.T) {
	r := rand.New(rand.NewSource(13))
	for _, slots := range []int{1, 2, 3, 64, 1023, 1024} {
		for _, many := range []int{2, 3, 8, 9, 100, 512} {
			w := made(t, slots, 2*many)
			for round := range 3 {
				ids := numbers(many, 2*many)
				r.Shuffle(many, func(i, j int) { ids[i], ids[j] = ids[j], ids[i] })
				for i, id := range ids {
					if i == many/2 {
						idle(t, w, round)
					}
					if i < many/2 {
						set(t, w, id, 5+round)
					} else {
						set(t, w, id, 5)
					}
				}
				for i := range many {
					set(t, w, i, 5+slots*(1+i%3))
				}
				// One of them is cancelled, and one is set again.
				cancel(t, w, many, true)
				set(t, w, many+1, far)
				idle(t, w, 4)
				tick(t, w, numbers(many+2, 2*many)...)
				cancel(t, w, many+1, true)
				has(t, w, numbers(0, many)...)
				for range many {
					w.Cancel(r.Intn(many))
				}
				for range 3 * slots {
					w.Tick()
				}
				has(t, w)
			}
		}
	}
}

// All of them at once, and each at a tick of its own.
func TestAllOfThem(t *testing.T) {
	for _, slots := range []int{1, 2, 1023, 1024} {
		w := made(t, slots, 1024)
		for id := 1023; id >= 0; id-- {
			set(t, w, id, slots)
		}
		idle(t, w, slots-1)
		tick(t, w, numbers(0, 1024)...)
		for id := range 1024 {
			set(t, w, id, 1+id*7%1024)
		}
		for i := range 1024 {
			tick(t, w, i*439%1024) // 7 * 439 is 1 more than three times 1024
		}
		has(t, w)
	}
}

// P13.4: timers that are far ahead are not due before, however many turns there are.
func TestFarAhead(t *testing.T) {
	afters := []int{1 << 16, 1<<20 - 1, 1 << 31, 1 << 32, 1<<32 + 1, far - 1, far}
	for _, slots := range []int{1, 2, 64, 1023, 1024} {
		w := made(t, slots, len(afters))
		idle(t, w, 3)
		for id, after := range afters {
			set(t, w, id, after)
		}
		idle(t, w, 1<<16-1)
		tick(t, w, 0)
		for id, after := range afters[1:] {
			left(t, w, id+1, after-1<<16)
		}
	}
}
