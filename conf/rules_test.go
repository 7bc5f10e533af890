package conf_test

import (
	"math"
	"testing"

	"jackstay/api"
	"jackstay/conf"
	"jackstay/rows"
)

// The rules that hold everywhere, R1 to R7, as far as they touch this layer. It has
// no objects (R5), no slices (R6) and no texts; counters that are beyond their ends
// are R7's wrong inputs, and have an error of their own.

// numbers are some at the ends of counters, beyond them, and far away.
func numbers() []int {
	return []int{
		math.MinInt, -256, -1, 0, 1, 10, 11, 12, 119, 127, 128, 129, 254, 255, 256, 263, 264, math.MaxInt,
	}
}

// R1, R2, R7: all counters have a result; those that are not right stay as they are.
func TestAllCountersHaveAResult(t *testing.T) {
	for _, tec := range numbers() {
		for _, rec := range numbers() {
			for _, run := range numbers() {
				for _, times := range numbers() {
					checkCounters(t, api.Conf{TEC: tec, REC: rec, Run: run, Times: times})
					checkCounters(t, off(tec, rec, run, times))
				}
			}
		}
	}
}

// checkCounters calls everything with c.
func checkCounters(t *testing.T, c api.Conf) {
	t.Helper()
	right := conf.Right(c)
	if mode := conf.Mode(c); mode > api.ConfOff || (c.Off || !right) != (mode == api.ConfOff) {
		t.Fatalf("Mode(%v) is %d", c, mode)
	}
	for _, recessive := range []bool{true, false} {
		if got := conf.Bit(c, recessive); conf.Right(got) != right || !right && got != c {
			t.Fatalf("Bit(%v, %v) is %v", c, recessive, got)
		}
	}
	for _, what := range []uint8{0, 1, 4, 7, 8, 9, 10, 255} {
		got, e := conf.Event(c, what)
		event := what >= 1 && what <= 9
		if (e == api.OK) != (right && event) || e != api.OK && (e != api.ErrConf || got != c) || conf.Right(got) != right {
			t.Fatalf("Event(%v, %d) is %v, error %d", c, what, got, e)
		}
	}
}

// R2: the calls after an error are as if it had not been.
func TestErrorsChangeNothing(t *testing.T) {
	for round := range 3 {
		if got, e := conf.Event(on(5, 6), 10); got != on(5, 6) || e != api.ErrConf {
			t.Errorf("round %d: Event is %v, error %d", round, got, e)
		}
		if got, e := conf.Event(on(256, 6), api.ConfSend); got != on(256, 6) || e != api.ErrConf {
			t.Errorf("round %d: Event is %v, error %d", round, got, e)
		}
		if got, e := conf.Event(on(5, 6), api.ConfSend); got != on(13, 6) || e != api.OK {
			t.Errorf("round %d: Event is %v, error %d", round, got, e)
		}
	}
}

// R3, R4: results hang on the arguments alone, not on the calls before, nor on what
// other controllers have met.
func TestResultsHangOnArgumentsAlone(t *testing.T) {
	one, other := on(240, 250), off(257, 1, 10, 3)
	for round := range 3 {
		met(t, api.Conf{}, api.ConfSend, 40)
		sent(off(256, 0, 0, 0), "rrrrrrrrrrrrdrrr")
		if got := met(t, one, api.ConfFlagSend, 2); got != off(256, 250, 0, 0) {
			t.Errorf("round %d: Event is %v", round, got)
		}
		if got := met(t, one, api.ConfFlagRecv, 1); got != on(240, 255) {
			t.Errorf("round %d: Event is %v", round, got)
		}
		if got := conf.Bit(other, true); got != off(257, 1, 0, 4) {
			t.Errorf("round %d: Bit is %v", round, got)
		}
		if conf.Mode(one) != api.ConfPassive || conf.Mode(other) != api.ConfOff || !conf.Right(one) || !conf.Right(other) {
			t.Errorf("round %d: Mode or Right is another one", round)
		}
	}
	if one != on(240, 250) || other != off(257, 1, 10, 3) {
		t.Errorf("the arguments have become %v and %v", one, other)
	}
}

// R4: two controllers with the same counters become the same by the same bits, however
// these came about.
func TestSameBitsSameCounters(t *testing.T) {
	long := off(263, 4, 0, 0)
	for s := range rows.UpTo(13) {
		c := sent(long, s)
		again := off(c.TEC, c.REC, c.Run, c.Times)
		if one, other := sent(c, s+"rr"), sent(again, s+"rr"); one != other {
			t.Fatalf("after %q it is %v or %v", s, one, other)
		}
	}
}
