package wheel_test

import (
	"slices"
	"testing"

	"jackstay/api"
	"jackstay/wheel"
)

// made is a wheel with so many slots, and that much room.
func made(t *testing.T, slots, most int) *wheel.Wheel {
	t.Helper()
	w, e := wheel.New(slots, most)
	if w == nil || e != api.OK {
		t.Fatalf("New(%d, %d) is %v, error %d", slots, most, w, e)
	}
	return w
}

// set holds Set to make a timer.
func set(t *testing.T, w *wheel.Wheel, id, after int) {
	t.Helper()
	now, many := w.Now(), w.Len()
	if _, is := w.Left(id); !is {
		many++
	}
	if e := w.Set(id, after); e != api.OK {
		t.Fatalf("at %d Set(%d, %d) of %d timers is error %d", now, id, after, many, e)
	}
	if w.Now() != now || w.Len() != many {
		t.Fatalf("after Set(%d, %d) at %d the time is %d, and there are %d timers, not %d", id, after, now, w.Now(), w.Len(), many)
	}
	left(t, w, id, after)
}

// upTo sets the timers from 0 on, before the last number, so far ahead.
func upTo(t *testing.T, w *wheel.Wheel, last, after int) {
	t.Helper()
	for id := range last {
		set(t, w, id, after)
	}
}

// refuses holds Set to be an error, which changes nothing.
func refuses(t *testing.T, w *wheel.Wheel, id, after int, want api.Errno) {
	t.Helper()
	now, many := w.Now(), w.Len()
	before, was := w.Left(id)
	if e := w.Set(id, after); e != want {
		t.Fatalf("at %d Set(%d, %d) of %d timers is error %d, not %d", now, id, after, many, e, want)
	}
	if n, is := w.Left(id); n != before || is != was || w.Now() != now || w.Len() != many {
		t.Fatalf("after error %d at %d the time is %d, and there are %d timers, not %d; of %d are left %d, %v, not %d, %v",
			want, now, w.Now(), w.Len(), many, id, n, is, before, was)
	}
}

// left holds a timer to be due in so many ticks.
func left(t *testing.T, w *wheel.Wheel, id, after int) {
	t.Helper()
	if n, is := w.Left(id); n != after || !is {
		t.Fatalf("at %d Left(%d) is %d, %v, not %d", w.Now(), id, n, is, after)
	}
}

// has holds a wheel to have timers with these numbers, and no others.
func has(t *testing.T, w *wheel.Wheel, ids ...int) {
	t.Helper()
	if n := w.Len(); n != len(ids) {
		t.Fatalf("at %d Len is %d, not %d", w.Now(), n, len(ids))
	}
	for id := -2; id <= 1025; id++ {
		n, is := w.Left(id)
		if want := slices.Contains(ids, id); is != want || (n > 0) != want || n < 0 {
			t.Fatalf("at %d Left(%d) is %d, %v, not %v", w.Now(), id, n, is, want)
		}
	}
}

// cancel holds Cancel to report whether there was a timer; then there is none.
func cancel(t *testing.T, w *wheel.Wheel, id int, is bool) {
	t.Helper()
	now, many := w.Now(), w.Len()
	if is {
		many--
	}
	if was := w.Cancel(id); was != is {
		t.Fatalf("at %d Cancel(%d) is %v", now, id, was)
	}
	if n, is := w.Left(id); n != 0 || is || w.Now() != now || w.Len() != many || w.Cancel(id) {
		t.Fatalf("after Cancel(%d) at %d the time is %d, and there are %d timers, not %d; Left is %d, %v", id, now, w.Now(), w.Len(), many, n, is)
	}
}

// tick holds Tick to return these numbers, whose timers are gone then, and returns what
// it returned.
func tick(t *testing.T, w *wheel.Wheel, want ...int) []int {
	t.Helper()
	now, many := w.Now()+1, w.Len()-len(want)
	got := w.Tick()
	if !slices.Equal(got, want) {
		t.Fatalf("Tick to %d is %v, not %v", now, got, want)
	}
	if w.Now() != now || w.Len() != many {
		t.Fatalf("after Tick to %d the time is %d, and there are %d timers, not %d", now, w.Now(), w.Len(), many)
	}
	for _, id := range want {
		if n, is := w.Left(id); n != 0 || is {
			t.Fatalf("%d was due at %d, but Left is %d, %v", id, now, n, is)
		}
	}
	return got
}

// idle holds so many ticks to return nothing.
func idle(t *testing.T, w *wheel.Wheel, many int) {
	t.Helper()
	for range many {
		tick(t, w)
	}
}

// numbers are those from a first one on, before the last.
func numbers(first, last int) []int {
	var l []int
	for id := first; id < last; id++ {
		l = append(l, id)
	}
	return l
}
