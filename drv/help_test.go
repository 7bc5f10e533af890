package drv_test

import (
	"slices"
	"strings"
	"testing"

	"jackstay/api"
	"jackstay/drv"
	"jackstay/rows"
	"jackstay/samples"
)

// letters are those of what is told of a step, by their numbers: nothing, sent, took,
// lost, off (x), on.
const letters = "-stlxn"

// offBits are so many recessive ones that a controller that is off is on again.
const offBits = api.OffRun * api.OffTimes

// base is a base frame without data.
func base(id uint32) api.Frame { return api.Frame{ID: id} }

// with is a base frame with one byte.
func with(id uint32, b byte) api.Frame { return api.Frame{ID: id, Dlc: 1, Data: []byte{b}} }

// one is a filter of one base frame.
func one(id uint32) api.Filter { return api.Filter{Mask: api.MaxBase, Match: id} }

// many is s so many times.
func many(s string, times int) string { return strings.Repeat(s, times) }

// made is a driver with filters, and that much room.
func made(t *testing.T, filters []api.Filter, mails, room int) *drv.Drv {
	t.Helper()
	d, e := drv.New(filters, mails, room)
	if d == nil || e != api.OK {
		t.Fatalf("New(%v, %d, %d) is %v, error %d", filters, mails, room, d, e)
	}
	return d
}

// open is a driver without filters, with some room.
func open(t *testing.T) *drv.Drv {
	t.Helper()
	return made(t, nil, 64, 64)
}

// send sends frames, which have the next numbers then.
func send(t *testing.T, d *drv.Drv, from int, l ...api.Frame) {
	t.Helper()
	for i, f := range l {
		if n, e := d.Send(f); n != from+i || e != api.OK {
			t.Fatalf("Send of %v is %d, error %d, not %d", f, n, e, from+i)
		}
	}
}

// refuses holds Send to be an error.
func refuses(t *testing.T, d *drv.Drv, f api.Frame, want api.Errno) {
	t.Helper()
	if n, e := d.Send(f); n != 0 || e != want {
		t.Fatalf("Send of %v is %d, error %d, not %d", f, n, e, want)
	}
}

// abort holds Abort to report whether a frame is gone.
func abort(t *testing.T, d *drv.Drv, n int, gone bool) {
	t.Helper()
	if is, e := d.Abort(n); is != gone || e != api.OK {
		t.Fatalf("Abort(%d) is %v, error %d", n, is, e)
	}
	if d.Waits(n) == gone {
		t.Fatalf("after Abort(%d), which was %v, it waits: %v", n, gone, !gone)
	}
}

// noMail holds numbers to be none that waits.
func noMail(t *testing.T, d *drv.Drv, numbers ...int) {
	t.Helper()
	for _, n := range numbers {
		if gone, e := d.Abort(n); gone || e != api.ErrMail || d.Waits(n) {
			t.Fatalf("Abort(%d) is %v, error %d; it waits: %v", n, gone, e, d.Waits(n))
		}
	}
}

// waits holds the frames with these numbers, and no others, to wait.
func waits(t *testing.T, d *drv.Drv, numbers ...int) {
	t.Helper()
	if out, _ := d.Fill(); out != len(numbers) {
		t.Fatalf("%d frames wait, not %d", out, len(numbers))
	}
	for n := -2; n <= 2*api.MaxMail; n++ {
		if is := d.Waits(n); is != slices.Contains(numbers, n) {
			t.Fatalf("%d waits: %v, not only %v", n, is, numbers)
		}
	}
}

// has holds the controller to have a frame that it is not sending.
func has(t *testing.T, d *drv.Drv, f api.Frame) {
	t.Helper()
	if c := d.Ctl(); !c.Has || c.Sends || !samples.Same(c.Give, f) {
		t.Fatalf("the controller does not have %v, but is %+v", f, c)
	}
}

// sends holds the controller to be sending a frame.
func sends(t *testing.T, d *drv.Drv, f api.Frame) {
	t.Helper()
	if c := d.Ctl(); !c.Has || !c.Sends || !samples.Same(c.Give, f) {
		t.Fatalf("the controller does not send %v, but is %+v", f, c)
	}
}

// hasNone holds the controller to have no frame, and none to wait.
func hasNone(t *testing.T, d *drv.Drv) {
	t.Helper()
	if c := d.Ctl(); c.Has || c.Sends || !samples.Same(c.Give, api.Frame{}) {
		t.Fatalf("the controller is %+v", c)
	}
	waits(t, d)
}

// reads holds Read to return a frame that came at a time.
func reads(t *testing.T, d *drv.Drv, f api.Frame, at int) {
	t.Helper()
	out, in := d.Fill()
	x, ok := d.Read()
	if !ok || x.At != at || !samples.Same(x.Frame, f) {
		t.Fatalf("Read is %v, %v, not %v at %d", x, ok, f, at)
	}
	if nowOut, nowIn := d.Fill(); nowOut != out || nowIn != in-1 {
		t.Fatalf("when one of %d frames was read there are %d; %d wait, not %d", in, nowIn, nowOut, out)
	}
}

// readsNone holds no frame to be there to be read.
func readsNone(t *testing.T, d *drv.Drv) {
	t.Helper()
	if _, in := d.Fill(); in != 0 {
		t.Fatalf("%d frames are there to be read", in)
	}
	if x, ok := d.Read(); ok || x.At != 0 || !samples.Same(x.Frame, api.Frame{}) {
		t.Fatalf("none came, but Read is %v, %v", x, ok)
	}
}

// flag holds the overrun flag to be set, or not; it stays as it is.
func flag(t *testing.T, d *drv.Drv, set bool) {
	t.Helper()
	for range 2 {
		if got := d.Overrun(); got != set {
			t.Fatalf("Overrun is %v", got)
		}
	}
}

// cleared holds Clear to tell whether the flag was set, and to reset it.
func cleared(t *testing.T, d *drv.Drv, was bool) {
	t.Helper()
	if got := d.Clear(); got != was {
		t.Fatalf("Clear is %v", got)
	}
	flag(t, d, false)
}

// same reports whether two notes are.
func same(a, b api.Note) bool {
	return a.What == b.What && a.N == b.N && samples.Same(a.Frame, b.Frame)
}

// bus is drivers on a bus, what was on it, what each one was told, by letters, and which
// frames each one has sent, with their numbers, has taken, and has lost.
type bus struct {
	t                 *testing.T
	l                 []*drv.Drv
	row               string
	told              []string
	numbers           [][]int
	sent, taken, lost [][]api.Frame
}

// newBus is one of these drivers.
func newBus(t *testing.T, l ...*drv.Drv) *bus {
	frames := func() [][]api.Frame { return make([][]api.Frame, len(l)) }
	return &bus{t: t, l: l, told: make([]string, len(l)), numbers: make([][]int, len(l)), sent: frames(), taken: frames(), lost: frames()}
}

// begun is a driver with these frames, beside another one, behind so many bits.
func begun(t *testing.T, bits int, l ...api.Frame) (*drv.Drv, *bus) {
	t.Helper()
	d := open(t)
	b := newBus(t, d, open(t))
	send(t, d, 1, l...)
	b.steps(bits)
	return d, b
}

// step is a bit. Those that are turned sample it inverted.
func (b *bus) step(turned ...int) {
	b.t.Helper()
	bit := true
	for _, d := range b.l {
		bit = bit && d.Drive()
	}
	b.row += rows.Text([]bool{bit})
	for i, d := range b.l {
		now := d.Now()
		b.note(i, d.Step(bit != slices.Contains(turned, i)))
		if d.Now() != now+1 {
			b.t.Fatalf("behind the time %d it is %d at driver %d", now, d.Now(), i)
		}
	}
}

// note is what a driver was told.
func (b *bus) note(i int, n api.Note) {
	b.t.Helper()
	b.told[i] += letters[n.What : n.What+1]
	rest := n
	rest.What = api.NoteNone
	switch n.What {
	case api.NoteSent:
		b.numbers[i], b.sent[i] = append(b.numbers[i], n.N), append(b.sent[i], n.Frame)
		rest.N, rest.Frame = 0, api.Frame{}
	case api.NoteTook:
		b.taken[i] = append(b.taken[i], n.Frame)
		rest.Frame = api.Frame{}
	case api.NoteLost:
		b.lost[i] = append(b.lost[i], n.Frame)
		rest.Frame = api.Frame{}
	}
	if !same(rest, api.Note{}) {
		b.t.Fatalf("driver %d is told %v", i, n)
	}
}

// steps are so many bits.
func (b *bus) steps(many int) {
	b.t.Helper()
	for range many {
		b.step()
	}
}

// quiet goes on until no frame waits, and the bus is idle.
func (b *bus) quiet() {
	b.t.Helper()
	for range 100000 {
		if !slices.ContainsFunc(b.l, busy) {
			return
		}
		b.step()
	}
	b.t.Fatal("it is not quiet behind 100000 bits")
}

// busy reports whether a driver has a frame that waits, or is at one.
func busy(d *drv.Drv) bool {
	out, _ := d.Fill()
	return out > 0 || d.Ctl().Phase != api.PhaseIdle
}

// whole holds all that was on the bus to be these frames, one behind the other, and what
// follows the last one.
func (b *bus) whole(l ...api.Frame) {
	b.t.Helper()
	want := ""
	for _, f := range l {
		want += samples.OnBus(f) + "rrr"
	}
	if b.row != want {
		b.t.Fatalf("of %v on the bus was\n%q, not\n%q", l, b.row, want)
	}
}
