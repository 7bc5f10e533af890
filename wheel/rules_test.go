package wheel_test

import (
	"math"
	"math/rand"
	"runtime"
	"slices"
	"testing"
	"testing/quick"

	"jackstay/api"
	"jackstay/wheel"
)

// The rules that hold everywhere, R1 to R7, as far as they touch this layer. It has no
// texts (R6, R7), and takes no slices (R3).

// none are wheels that are nil, or that New did not return: also copies of one that has
// timers, and of one that is full.
func none(t *testing.T) map[string]*wheel.Wheel {
	w := made(t, 4, 3)
	tick(t, w)
	set(t, w, 1, 1)
	some := *w
	set(t, w, 2, 2)
	set(t, w, 3, 9)
	full := *w
	return map[string]*wheel.Wheel{"nil": nil, "a new one": new(wheel.Wheel), "a copy": &some, "a copy of a full one": &full}
}

// R5: what a wheel that is none returns. ErrNil is named before ErrArg and ErrFull.
func TestWheelsThatAreNone(t *testing.T) {
	ids := []int{math.MinInt, -1, 0, 1, 2, 3, 4, 1023, 1024, math.MaxInt}
	for what, w := range none(t) {
		// More than once, as nothing comes of the calls.
		for range 5 {
			for _, id := range ids {
				for _, after := range []int{math.MinInt, 0, 1, 2, far, far + 1} {
					if e := w.Set(id, after); e != api.ErrNil {
						t.Errorf("%s: Set(%d, %d) is error %d", what, id, after, e)
					}
				}
				if n, is := w.Left(id); n != 0 || is {
					t.Errorf("%s: Left(%d) is %d, %v", what, id, n, is)
				}
				if w.Cancel(id) {
					t.Errorf("%s: there was a timer %d", what, id)
				}
			}
			if l := w.Tick(); len(l) != 0 {
				t.Errorf("%s: Tick is %v", what, l)
			}
			if now, n := w.Now(), w.Len(); now != 0 || n != 0 {
				t.Errorf("%s: the time is %d, Len is %d", what, now, n)
			}
		}
	}
}

// R5: a copy leaves the wheel alone that it was made of.
func TestCopiesLeaveWheelsAlone(t *testing.T) {
	for _, slots := range []int{1, 2, 1024} {
		w := made(t, slots, 3)
		for range 5 {
			set(t, w, 1, 1)
			set(t, w, 2, 3)
			for range 4 {
				other := *w
				other.Tick()
				other.Cancel(2)
				other.Set(3, 1)
				other.Set(2, 1)
			}
			has(t, w, 1, 2)
			tick(t, w, 1)
			left(t, w, 2, 2)
			idle(t, w, 1)
			tick(t, w, 2)
		}
	}
}

// R1: every call returns, whatever its arguments are.
func TestEveryCallReturns(t *testing.T) {
	w := made(t, 7, 5)
	one := func(slots, most, id, after int, near uint8) bool {
		if other, e := wheel.New(slots, most); (other == nil) != (e != api.OK) || e != api.OK && e != api.ErrArg {
			return false
		}
		for _, id := range []int{id, int(near), int(near) * 8} {
			for _, after := range []int{after, int(near), after & (far - 1)} {
				e := w.Set(id, after)
				n, is := w.Left(id)
				right := id >= 0 && id < 1024 && after > 0 && after <= far
				if right != (e != api.ErrArg) || e == api.OK && (n != after || !is) || e == api.ErrFull && is {
					return false
				}
			}
			if near%3 == 0 && (w.Cancel(id) && w.Cancel(id)) {
				return false
			}
		}
		return slices.IsSorted(w.Tick())
	}
	if e := quick.Check(one, &quick.Config{MaxCount: 5000, Rand: rand.New(rand.NewSource(13))}); e != nil {
		t.Error(e)
	}
}

// R2: errors, and a false, leave no trace: one wheel that has them, and another one that
// has none, go on alike.
func TestErrorsChangeNothing(t *testing.T) {
	for _, slots := range []int{1, 3, 1024} {
		w, other := made(t, slots, 3), made(t, slots, 3)
		fail := func() {
			t.Helper()
			for _, x := range [][2]int{{0, 0}, {-1, 1}, {1024, 1}, {1, far + 1}, {2, -1}, {1023, 0}} {
				refuses(t, w, x[0], x[1], api.ErrArg)
			}
			if w.Len() == 3 {
				refuses(t, w, 900, 1, api.ErrFull)
				refuses(t, w, 901, far, api.ErrFull)
			}
			for _, id := range []int{-1, 900, 901, 1024} {
				cancel(t, w, id, false)
			}
			wheel.New(0, 3)
			wheel.New(3, -1)
		}
		for round := range 200 {
			fail()
			id, after := round*round%5, 1+round*3%7
			if e, want := w.Set(id, after), other.Set(id, after); e != want {
				t.Fatalf("round %d: Set is error %d, not %d", round, e, want)
			}
			fail()
			tick(t, w, other.Tick()...)
			fail()
			for id := range 5 {
				n, is := w.Left(id)
				if want, was := other.Left(id); n != want || is != was {
					t.Fatalf("round %d: Left(%d) is %d, %v, not %d, %v", round, id, n, is, want, was)
				}
			}
		}
	}
}

// R3: what Tick returned is new: writing over it, and over what lies behind its end,
// changes no wheel, and no other result.
func TestResultsAreNew(t *testing.T) {
	for _, slots := range []int{1, 2, 1024} {
		for _, many := range []int{1, 2, 3, 5, 1000} {
			w, all := made(t, slots, 1024), [][]int{}
			for range 4 {
				upTo(t, w, many, 1)
				set(t, w, 1023, 9)
				l := tick(t, w, numbers(0, many)...)
				for _, other := range all {
					other = other[:cap(other)]
					for i := range other {
						other[i] = -7
					}
				}
				if !slices.Equal(l, numbers(0, many)) {
					t.Fatalf("what Tick returned changes with what it returned before: %v", l)
				}
				all = append(all, l)
				has(t, w, 1023)
			}
			idle(t, w, 7)
			tick(t, w, 1023)
		}
	}
}

// R4: what a wheel returns hangs on its own history alone, not on other wheels; and
// whatever the order is in which its timers are gone through.
func TestWheelsAreApart(t *testing.T) {
	var all []*group
	for _, most := range []int{1, 3, 3, 20, 1024} {
		all = append(all, newGroup(t, most, 1, 8, 8))
	}
	r := rand.New(rand.NewSource(4))
	for range 5000 {
		g, id := all[r.Intn(len(all))], r.Intn(30)
		switch r.Intn(5) {
		case 0:
			g.cancel(t, id)
		case 1, 2:
			g.set(t, id, 1+r.Intn(20))
		default:
			g.tick(t)
		}
	}
}

// R4, R6: a tick at which nothing is due is as it is on a wheel without timers.
func TestNothingDue(t *testing.T) {
	for _, slots := range []int{1, 2, 1024} {
		w, empty := made(t, slots, 2), made(t, slots, 0)
		for range 3 * slots {
			set(t, w, 1, slots+1)
			set(t, w, 2, far)
			if l, other := w.Tick(), empty.Tick(); len(l) != 0 || len(other) != 0 {
				t.Fatalf("Tick is %v, and %v without timers", l, other)
			}
		}
	}
}

// used is how many bytes of memory are in use.
func used() int {
	runtime.GC()
	var m runtime.MemStats
	runtime.ReadMemStats(&m)
	return int(m.HeapAlloc)
}

// Nothing more is kept than the timers there are: the memory of a wheel stays as it is
// when each number has been in each slot, however it left it.
func TestNothingIsKept(t *testing.T) {
	const slots = 1024
	leaves := []func(w *wheel.Wheel, id int){
		func(w *wheel.Wheel, id int) { w.Cancel(id) },
		func(w *wheel.Wheel, id int) {},
	}
	for i, leave := range leaves {
		w := made(t, slots, 1024)
		rounds := func(many int) {
			for round := range many {
				for id := range 1024 {
					leave(w, id)
					w.Set(id, 1+(id+round)%slots)
				}
			}
		}
		rounds(2)
		before := used()
		rounds(slots)
		if more := used() - before; more > 1<<22 {
			t.Errorf("way %d: a wheel has %d bytes more", i, more)
		}
		runtime.KeepAlive(w)
	}
	// They are due, too.
	w := made(t, slots, 1024)
	rounds := func(many int) {
		for round := range many {
			for at := range slots {
				id := (at + round) % 1024
				w.Set(id, 1)
				if l := w.Tick(); !slices.Equal(l, []int{id}) {
					t.Fatalf("Tick to %d is %v, not %d", w.Now(), l, id)
				}
			}
		}
	}
	rounds(2)
	before := used()
	rounds(slots)
	if more := used() - before; more > 1<<22 {
		t.Errorf("when they were due a wheel has %d bytes more", more)
	}
	runtime.KeepAlive(w)
}
