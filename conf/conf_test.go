package conf_test

import (
	"iter"
	"math"
	"slices"
	"strings"
	"testing"

	"jackstay/api"
	"jackstay/conf"
	"jackstay/rows"
)

// wayBack are the recessive bits in a row that bring a controller back.
const wayBack = 1408

// on are counters of a controller that is on the bus.
func on(tec, rec int) api.Conf { return api.Conf{TEC: tec, REC: rec} }

// off are counters of a controller that is off.
func off(tec, rec, run, times int) api.Conf {
	return api.Conf{TEC: tec, REC: rec, Off: true, Run: run, Times: times}
}

// allOn yields all right counters of controllers that are on.
func allOn() iter.Seq[api.Conf] {
	return func(yield func(api.Conf) bool) {
		for tec := range 256 {
			for rec := range 256 {
				if !yield(on(tec, rec)) {
					return
				}
			}
		}
	}
}

// allOff yields all right counters of controllers that are off, with those REC.
func allOff(recs ...int) iter.Seq[api.Conf] {
	return func(yield func(api.Conf) bool) {
		for n := range 8 * 11 * 128 {
			for _, rec := range recs {
				if !yield(off(256+n%8, rec, n/8%11, n/88)) {
					return
				}
			}
		}
	}
}

// wrong are counters that may not be, at the edges, and far away.
func wrong() []api.Conf {
	l := []api.Conf{
		// On, with counters beyond the ends.
		on(-1, 0), on(0, -1), on(-1, -1), on(256, 0), on(0, 256), on(256, 256), on(263, 0),
		on(128, 256), on(256, 128), on(-8, 5), on(5, -8), on(264, 3), on(1000, 1000),
		// On, with counted bits.
		{Run: 1}, {Times: 1}, {Run: 10, Times: 127}, {TEC: 255, REC: 255, Run: 1}, {Run: -1}, {Times: -1},
		{Run: 11}, {Times: 128}, {TEC: 256, Run: 3, Times: 3}, {Run: 1, Times: -1},
		// Off, with counters beyond the ends.
		off(255, 0, 0, 0), off(264, 0, 0, 0), off(0, 0, 0, 0), off(-1, 0, 0, 0), off(128, 0, 5, 5), off(-256, 0, 0, 0),
		off(256, -1, 0, 0), off(256, 256, 0, 0), off(263, 256, 10, 127), off(263, -1, 10, 127), off(512, 0, 0, 0),
		// Off, with counted bits beyond the ends.
		off(256, 0, -1, 0), off(256, 0, 11, 0), off(256, 0, 12, 0), off(263, 255, 11, 127),
		off(256, 0, 0, -1), off(256, 0, 0, 128), off(263, 255, 10, 128), off(263, 255, 10, -1),
		off(256, 0, -1, 128), off(256, 0, 11, -1), off(256, 0, 22, 0), off(256, 0, 0, 256),
	}
	for _, n := range []int{math.MinInt, math.MinInt + 1, math.MinInt32, math.MaxInt32, math.MaxInt - 7, math.MaxInt} {
		l = append(l,
			on(n, 0), on(0, n), on(n, n), api.Conf{Run: n}, api.Conf{Times: n},
			off(n, 0, 0, 0), off(256, n, 0, 0), off(256, 0, n, 0), off(256, 0, 0, n), off(n, n, n, n),
		)
	}
	return l
}

// noEvents are numbers of events that are none.
func noEvents() []uint8 {
	l := []uint8{0}
	for what := 10; what < 256; what++ {
		l = append(l, uint8(what))
	}
	return l
}

// sent calls Bit with each of those bits, r or d.
func sent(c api.Conf, l string) api.Conf {
	for _, bit := range rows.Of(l) {
		c = conf.Bit(c, bit)
	}
	return c
}

// met calls Event with one event, so many times.
func met(t *testing.T, c api.Conf, what uint8, many int) api.Conf {
	t.Helper()
	for range many {
		next, e := conf.Event(c, what)
		if e != api.OK {
			t.Fatalf("Event(%v, %d) is error %d", c, what, e)
		}
		c = next
	}
	return c
}

// P6.1

func TestRight(t *testing.T) {
	for _, c := range []api.Conf{
		{}, on(1, 0), on(0, 1), on(127, 127), on(128, 128), on(255, 0), on(0, 255), on(255, 255),
		off(256, 0, 0, 0), off(263, 0, 0, 0), off(256, 255, 0, 0), off(256, 0, 10, 0), off(256, 0, 0, 127),
		off(263, 255, 10, 127), off(260, 128, 5, 64), off(257, 1, 1, 1),
	} {
		if !conf.Right(c) {
			t.Errorf("%v is not right", c)
		}
	}
	for _, c := range wrong() {
		if conf.Right(c) {
			t.Errorf("%v is right", c)
		}
	}
}

// All counters a little beyond their ends: those from least to most of each are right.
func TestRightOfAllCounters(t *testing.T) {
	for tec := -3; tec <= 270; tec++ {
		for rec := -3; rec <= 260; rec++ {
			recRight := rec >= 0 && rec <= 255
			if got, want := conf.Right(on(tec, rec)), recRight && tec >= 0 && tec <= 255; got != want {
				t.Fatalf("Right of TEC %d, REC %d is %v", tec, rec, got)
			}
			if got, want := conf.Right(off(tec, rec, 3, 3)), recRight && tec >= 256 && tec <= 263; got != want {
				t.Fatalf("Right of TEC %d, REC %d, off, is %v", tec, rec, got)
			}
		}
	}
	for run := -3; run <= 14; run++ {
		for times := -3; times <= 131; times++ {
			if got, want := conf.Right(off(258, 7, run, times)), run >= 0 && run <= 10 && times >= 0 && times <= 127; got != want {
				t.Fatalf("Right of Run %d, Times %d is %v", run, times, got)
			}
			c := api.Conf{TEC: 8, REC: 7, Run: run, Times: times}
			if got, want := conf.Right(c), run == 0 && times == 0; got != want {
				t.Fatalf("Right of Run %d, Times %d of one that is on is %v", run, times, got)
			}
		}
	}
}

func TestMode(t *testing.T) {
	for _, x := range []struct {
		c    api.Conf
		want uint8
	}{
		{api.Conf{}, api.ConfActive},
		{on(127, 0), api.ConfActive},
		{on(0, 127), api.ConfActive},
		{on(127, 127), api.ConfActive},
		{on(128, 0), api.ConfPassive},
		{on(0, 128), api.ConfPassive},
		{on(128, 127), api.ConfPassive},
		{on(127, 128), api.ConfPassive},
		{on(128, 128), api.ConfPassive},
		{on(255, 0), api.ConfPassive},
		{on(0, 255), api.ConfPassive},
		{on(255, 255), api.ConfPassive},
		{off(256, 0, 0, 0), api.ConfOff},
		{off(263, 255, 10, 127), api.ConfOff},
		{off(256, 128, 0, 0), api.ConfOff},
	} {
		if mode := conf.Mode(x.c); mode != x.want {
			t.Errorf("Mode(%v) is %d, not %d", x.c, mode, x.want)
		}
	}
}

func TestModeOfAllCounters(t *testing.T) {
	for c := range allOn() {
		want := api.ConfActive
		if c.TEC >= 128 || c.REC >= 128 {
			want = api.ConfPassive
		}
		if mode := conf.Mode(c); mode != want {
			t.Fatalf("Mode(%v) is %d, not %d", c, mode, want)
		}
	}
	for c := range allOff(0, 127, 128, 255) {
		if mode := conf.Mode(c); mode != api.ConfOff {
			t.Fatalf("Mode(%v) is %d", c, mode)
		}
	}
}

func TestModeOfWrongCounters(t *testing.T) {
	for _, c := range wrong() {
		if mode := conf.Mode(c); mode != api.ConfOff {
			t.Errorf("Mode(%v) is %d", c, mode)
		}
	}
}

// P6.2

func TestEvent(t *testing.T) {
	for _, x := range []struct {
		c    api.Conf
		what uint8
		want api.Conf
	}{
		{on(3, 5), api.ConfRecv, on(3, 6)},
		{on(3, 5), api.ConfFirst, on(3, 13)},
		{on(3, 5), api.ConfFlagRecv, on(3, 13)},
		{on(3, 5), api.ConfLongRecv, on(3, 13)},
		{on(3, 5), api.ConfSend, on(11, 5)},
		{on(3, 5), api.ConfFlagSend, on(11, 5)},
		{on(3, 5), api.ConfLongSend, on(11, 5)},
		{on(3, 5), api.ConfSent, on(2, 5)},
		{on(3, 5), api.ConfTook, on(3, 4)},
		// From nothing.
		{api.Conf{}, api.ConfRecv, on(0, 1)},
		{api.Conf{}, api.ConfFirst, on(0, 8)},
		{api.Conf{}, api.ConfSend, on(8, 0)},
		{api.Conf{}, api.ConfSent, api.Conf{}},
		{api.Conf{}, api.ConfTook, api.Conf{}},
		{on(1, 1), api.ConfSent, on(0, 1)},
		{on(1, 1), api.ConfTook, on(1, 0)},
		{on(0, 9), api.ConfSent, on(0, 9)},
		{on(9, 0), api.ConfTook, on(9, 0)},
		// Between active and passive.
		{on(127, 127), api.ConfRecv, on(127, 128)},
		{on(120, 120), api.ConfSend, on(128, 120)},
		{on(120, 120), api.ConfLongRecv, on(120, 128)},
		{on(128, 0), api.ConfSent, on(127, 0)},
		{on(0, 126), api.ConfTook, on(0, 125)},
		{on(0, 127), api.ConfTook, on(0, 126)},
		{on(0, 128), api.ConfTook, on(0, 119)},
		{on(0, 200), api.ConfTook, on(0, 119)},
		{on(200, 255), api.ConfTook, on(200, 119)},
		// REC at its end.
		{on(7, 254), api.ConfRecv, on(7, 255)},
		{on(7, 255), api.ConfRecv, on(7, 255)},
		{on(7, 246), api.ConfFirst, on(7, 254)},
		{on(7, 247), api.ConfFirst, on(7, 255)},
		{on(7, 248), api.ConfFlagRecv, on(7, 255)},
		{on(7, 254), api.ConfLongRecv, on(7, 255)},
		{on(7, 255), api.ConfLongRecv, on(7, 255)},
		// TEC at its end: the controller is off.
		{on(246, 7), api.ConfSend, on(254, 7)},
		{on(247, 7), api.ConfSend, on(255, 7)},
		{on(248, 7), api.ConfSend, off(256, 7, 0, 0)},
		{on(249, 0), api.ConfFlagSend, off(257, 0, 0, 0)},
		{on(255, 255), api.ConfLongSend, off(263, 255, 0, 0)},
		{on(255, 255), api.ConfSent, on(254, 255)},
	} {
		if got, e := conf.Event(x.c, x.what); got != x.want || e != api.OK {
			t.Errorf("Event(%v, %d) is %v, error %d, not %v", x.c, x.what, got, e, x.want)
		}
	}
}

// recAfter tells REC after an event of a controller that is on.
func recAfter(rec int, what uint8) int {
	switch {
	case what == 1:
		rec += 1
	case what >= 2 && what <= 4:
		rec += 8
	case what == 9 && rec > 127:
		rec = 119
	case what == 9 && rec > 0:
		rec -= 1
	}
	if rec > 255 {
		return 255
	}
	return rec
}

// tecAfter tells TEC after an event of a controller that is on.
func tecAfter(tec int, what uint8) int {
	switch {
	case what >= 5 && what <= 7:
		return tec + 8
	case what == 8 && tec > 0:
		return tec - 1
	}
	return tec
}

func TestEventOfAllCounters(t *testing.T) {
	for c := range allOn() {
		for what := uint8(1); what <= 9; what++ {
			want := on(tecAfter(c.TEC, what), recAfter(c.REC, what))
			want.Off = want.TEC >= 256
			if got, e := conf.Event(c, what); got != want || e != api.OK {
				t.Fatalf("Event(%v, %d) is %v, error %d, not %v", c, what, got, e, want)
			}
		}
	}
}

// For a controller that is off no event has an effect.
func TestEventOfAllThatAreOff(t *testing.T) {
	for c := range allOff(0, 1, 127, 128, 250, 255) {
		for what := uint8(1); what <= 9; what++ {
			if got, e := conf.Event(c, what); got != c || e != api.OK {
				t.Fatalf("Event(%v, %d) is %v, error %d", c, what, got, e)
			}
		}
	}
}

// Beside the error the counters are what they were.
func TestWhatAreNoEvents(t *testing.T) {
	for _, c := range append(wrong(), api.Conf{}, on(5, 0), on(127, 128), on(255, 255), off(256, 0, 0, 0), off(263, 255, 10, 127)) {
		for _, what := range noEvents() {
			if got, e := conf.Event(c, what); got != c || e != api.ErrConf {
				t.Fatalf("Event(%v, %d) is %v, error %d", c, what, got, e)
			}
		}
	}
}

func TestEventOfWrongCounters(t *testing.T) {
	for _, c := range wrong() {
		for what := uint8(1); what <= 9; what++ {
			if got, e := conf.Event(c, what); got != c || e != api.ErrConf {
				t.Fatalf("Event(%v, %d) is %v, error %d", c, what, got, e)
			}
		}
	}
}

func TestBit(t *testing.T) {
	for _, x := range []struct {
		c         api.Conf
		recessive bool
		want      api.Conf
	}{
		{off(256, 0, 0, 0), true, off(256, 0, 1, 0)},
		{off(256, 0, 0, 0), false, off(256, 0, 0, 0)},
		{off(263, 255, 4, 9), true, off(263, 255, 5, 9)},
		{off(263, 255, 4, 9), false, off(263, 255, 0, 9)},
		{off(260, 3, 9, 5), true, off(260, 3, 10, 5)},
		{off(260, 3, 9, 5), false, off(260, 3, 0, 5)},
		// The eleventh one.
		{off(260, 3, 10, 0), true, off(260, 3, 0, 1)},
		{off(260, 3, 10, 0), false, off(260, 3, 0, 0)},
		{off(260, 3, 10, 126), true, off(260, 3, 0, 127)},
		{off(260, 3, 10, 126), false, off(260, 3, 0, 126)},
		// That of the last sequence.
		{off(256, 0, 9, 127), true, off(256, 0, 10, 127)},
		{off(256, 0, 10, 127), true, api.Conf{}},
		{off(263, 255, 10, 127), true, api.Conf{}},
		{off(263, 255, 10, 127), false, off(263, 255, 0, 127)},
		{off(263, 255, 0, 127), true, off(263, 255, 1, 127)},
	} {
		if got := conf.Bit(x.c, x.recessive); got != x.want {
			t.Errorf("Bit(%v, %v) is %v, not %v", x.c, x.recessive, got, x.want)
		}
	}
}

func TestBitOfAllThatAreOff(t *testing.T) {
	for c := range allOff(0, 119, 128, 255) {
		// The bits of the sequences that are complete, and of the one that is not.
		bits := c.Times*11 + c.Run + 1
		want := off(c.TEC, c.REC, bits%11, bits/11)
		if bits == wayBack {
			want = api.Conf{}
		}
		if got := conf.Bit(c, true); got != want {
			t.Fatalf("Bit(%v, true) is %v, not %v", c, got, want)
		}
		if got, want := conf.Bit(c, false), off(c.TEC, c.REC, 0, c.Times); got != want {
			t.Fatalf("Bit(%v, false) is %v, not %v", c, got, want)
		}
	}
}

func TestBitOfWrongCounters(t *testing.T) {
	for _, c := range wrong() {
		for _, recessive := range []bool{true, false} {
			if got := conf.Bit(c, recessive); got != c {
				t.Errorf("Bit(%v, %v) is %v", c, recessive, got)
			}
		}
	}
}

// P6.3

func TestWhatIsReturnedIsRight(t *testing.T) {
	check := func(c api.Conf) {
		for what := uint8(1); what <= 9; what++ {
			if got, e := conf.Event(c, what); !conf.Right(got) || e != api.OK {
				t.Fatalf("Event(%v, %d) is %v, error %d", c, what, got, e)
			}
		}
		for _, recessive := range []bool{true, false} {
			if got := conf.Bit(c, recessive); !conf.Right(got) {
				t.Fatalf("Bit(%v, %v) is %v", c, recessive, got)
			}
		}
	}
	for c := range allOn() {
		check(c)
	}
	for c := range allOff(0, 255) {
		check(c)
	}
}

// The counters of a controller that is on change by events alone.
func TestBitsOfControllersThatAreOn(t *testing.T) {
	for c := range allOn() {
		if conf.Bit(c, true) != c || conf.Bit(c, false) != c {
			t.Fatalf("a bit makes %v %v or %v", c, conf.Bit(c, true), conf.Bit(c, false))
		}
	}
	for _, c := range []api.Conf{{}, on(127, 128), on(255, 255)} {
		if got := sent(c, strings.Repeat("r", 3*wayBack)); got != c {
			t.Errorf("many recessive bits make %v %v", c, got)
		}
	}
}

// A controller that is off counts bits, whatever events are between.
func TestEventsBetweenBits(t *testing.T) {
	c := off(259, 200, 0, 0)
	for many := 1; many <= wayBack; many++ {
		for what := uint8(1); what <= 9; what++ {
			c = met(t, c, what, 1)
		}
		if c = conf.Bit(c, true); c.Off == (many == wayBack) {
			t.Fatalf("after %d bits it is %v", many, c)
		}
	}
	if c != (api.Conf{}) {
		t.Errorf("on again it is %v", c)
	}
}

// back tells after how many of those bits, r or d, a controller that has just gone off
// is on again: as many as end with the 128th sequence of 11 recessive ones; -1 if it
// is not.
func back(l string) int {
	many, times := 0, 0
	for _, run := range strings.SplitAfter(l, "d") {
		sequences := strings.Count(run, strings.Repeat("r", 11))
		if times+sequences >= 128 {
			return many + 11*(128-times)
		}
		times += sequences
		many += len(run)
	}
	return -1
}

// checkBack follows a controller that goes off until it is on again, and holds it to
// back.
func checkBack(t *testing.T, l string) {
	t.Helper()
	c, want := off(261, 77, 0, 0), back(l)
	for i, bit := range rows.Of(l) {
		if c = conf.Bit(c, bit); c.Off != (want < 0 || i+1 < want) || !conf.Right(c) {
			t.Fatalf("after %d bits, of which %d bring it back, it is %v", i+1, want, c)
		}
	}
	if want >= 0 && c != (api.Conf{}) {
		t.Fatalf("on again it is %v", c)
	}
}

func TestWayBack(t *testing.T) {
	c := off(256, 0, 0, 0)
	for many := 1; many < wayBack; many++ {
		if c = conf.Bit(c, true); c != off(256, 0, many%11, many/11) || conf.Mode(c) != api.ConfOff {
			t.Fatalf("after %d recessive bits it is %v", many, c)
		}
	}
	if c = conf.Bit(c, true); c != (api.Conf{}) || conf.Mode(c) != api.ConfActive {
		t.Errorf("after all it is %v", c)
	}
}

// One dominant bit, at each place: it cuts a run, or it does not.
func TestWayBackWithOneDominantBit(t *testing.T) {
	for place := range wayBack + 1 {
		l := strings.Repeat("r", place) + "d" + strings.Repeat("r", wayBack)
		want := wayBack + 1 + place%11
		if place == wayBack {
			want = wayBack
		}
		if back(l) != want {
			t.Fatalf("with a dominant bit at %d %d bits should bring it back, not %d", place, want, back(l))
		}
		checkBack(t, l)
	}
}

// Runs of every length, again and again: what is beyond a sequence, and is cut, does
// not count; what is counted is not counted again.
func TestWayBackByRuns(t *testing.T) {
	for run := range 60 {
		for dominant := 1; dominant <= 12; dominant += 5 {
			l := strings.Repeat(strings.Repeat("r", run)+strings.Repeat("d", dominant), 140)
			checkBack(t, l)
			checkBack(t, strings.Repeat("d", dominant)+l)
		}
	}
	if l := strings.Repeat(strings.Repeat("r", 10)+"d", 1000); back(l) != -1 {
		t.Fatal("runs of 10 should not bring it back")
	}
	for _, x := range []struct{ run, want int }{{11, 127*12 + 11}, {12, 127*13 + 11}, {21, 127*22 + 11}, {22, 63*23 + 22}, {23, 63*24 + 22}} {
		l := strings.Repeat(strings.Repeat("r", x.run)+"d", 140)
		if back(l) != x.want {
			t.Fatalf("with runs of %d %d bits should bring it back, not %d", x.run, x.want, back(l))
		}
	}
}

// Runs of lengths that change.
func TestWayBackByMixedRuns(t *testing.T) {
	for step := range 37 {
		var l strings.Builder
		for i := 0; l.Len() < 3*wayBack; i++ {
			l.WriteString(strings.Repeat("r", (i*i*7+i*step)%43))
			l.WriteString(strings.Repeat("d", (i*step)%3))
		}
		if back(l.String()) < 0 {
			t.Fatalf("the runs of step %d should bring it back", step)
		}
		checkBack(t, l.String())
	}
}

// The last run is cut at each place.
func TestWayBackCutAtTheEnd(t *testing.T) {
	for run := 1; run <= 10; run++ {
		c := sent(off(258, 9, 0, 127), strings.Repeat("r", run)+"d")
		if c != off(258, 9, 0, 127) {
			t.Errorf("after %d recessive bits and a dominant one it is %v", run, c)
		}
		if c = sent(c, strings.Repeat("r", 10)); c != off(258, 9, 10, 127) {
			t.Errorf("after ten more it is %v", c)
		}
		if c = conf.Bit(c, true); c != (api.Conf{}) {
			t.Errorf("after the eleventh it is %v", c)
		}
	}
}

// One that is back may go off again, and come back as before.
func TestOffAgain(t *testing.T) {
	c := api.Conf{}
	for range 3 {
		c = met(t, c, api.ConfLongSend, 32)
		if c != off(256, 0, 0, 0) {
			t.Fatalf("after 32 events it is %v", c)
		}
		c = sent(c, strings.Repeat("r", wayBack-1))
		if c != off(256, 0, 10, 127) {
			t.Fatalf("a bit before it is on it is %v", c)
		}
		c = sent(c, "rrrdr")
		if c != (api.Conf{}) {
			t.Fatalf("on again it is %v", c)
		}
	}
}

// What is similar counts the same, whatever the counters are.
func TestSimilarEvents(t *testing.T) {
	similar := [][]uint8{{2, 3, 4}, {5, 6, 7}}
	for c := range allOn() {
		for _, kind := range similar {
			var all []api.Conf
			for _, what := range kind {
				all = append(all, met(t, c, what, 1))
			}
			if len(slices.Compact(all)) != 1 {
				t.Fatalf("after similar events %v is %v", c, all)
			}
		}
		// Eight times the lesser one is once the greater one.
		if one, other := met(t, c, api.ConfFirst, 1), met(t, c, api.ConfRecv, 8); one != other {
			t.Fatalf("%v is %v or %v", c, one, other)
		}
	}
}

// The chapter's examples.
func TestExamples(t *testing.T) {
	c := met(t, api.Conf{}, api.ConfSend, 15)
	if c != on(120, 0) || conf.Mode(c) != api.ConfActive {
		t.Errorf("after 15 errors it is %v, mode %d", c, conf.Mode(c))
	}
	c = met(t, c, api.ConfSend, 1)
	if c != on(128, 0) || conf.Mode(c) != api.ConfPassive {
		t.Errorf("after 16 errors it is %v, mode %d", c, conf.Mode(c))
	}
	c = met(t, c, api.ConfSend, 15)
	if c != on(248, 0) || conf.Mode(c) != api.ConfPassive {
		t.Errorf("after 31 errors it is %v, mode %d", c, conf.Mode(c))
	}
	c = met(t, c, api.ConfSend, 1)
	if c != off(256, 0, 0, 0) || conf.Mode(c) != api.ConfOff {
		t.Errorf("after 32 errors it is %v, mode %d", c, conf.Mode(c))
	}
	if got := met(t, on(0, 200), api.ConfTook, 1); got != on(0, 119) {
		t.Errorf("after a frame it is %v", got)
	}
	if got := sent(c, strings.Repeat("r", 1408)); got != (api.Conf{}) || conf.Mode(got) != api.ConfActive {
		t.Errorf("after 1408 recessive bits it is %v", got)
	}
	c = sent(c, strings.Repeat("r", 1407))
	if c != off(256, 0, 10, 127) {
		t.Errorf("after 1407 recessive bits it is %v", c)
	}
	if got := sent(c, "d"+strings.Repeat("r", 10)); got != c {
		t.Errorf("after a dominant one and ten it is %v", got)
	}
	if got := sent(c, "d"+strings.Repeat("r", 11)); got != (api.Conf{}) {
		t.Errorf("after a dominant one and eleven it is %v", got)
	}
}
