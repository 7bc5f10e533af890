package ctl_test

import (
	"testing"

	"jackstay/api"
	"jackstay/ctl"
	"jackstay/samples"
)

// places are controllers of all phases, each with a frame that it may be given, or may
// drop, unless it sends one.
func places() map[string]api.Ctl {
	s := samples.Wire(api.Frame{ID: 1})
	return map[string]api.Ctl{
		"idle":          {},
		"reading":       after(api.Ctl{}, s[:20]),
		"acknowledging": after(api.Ctl{}, s[:len(s)-9]),
		"having taken":  after(api.Ctl{}, s[:len(s)-1]),
		"in a flag":     after(api.Ctl{}, "dddddddd"),
		"in a weak one": after(with(api.Ctl{}, 0, 200), "dddddddd"),
		"overloaded":    after(api.Ctl{}, s+"d"),
		"waiting":       after(api.Ctl{}, many("d", 12)+"ddd"),
		"delimiting":    after(api.Ctl{}, many("d", 12)+"rrr"),
		"between":       after(api.Ctl{}, s+"r"),
		"holding back":  {Phase: api.PhaseHold, N: 3, Conf: api.Conf{TEC: 128}, Sender: true},
		"off":           {Phase: api.PhaseOff, Conf: gone(256, 3)},
	}
}

// P8.1

func TestGive(t *testing.T) {
	for what, c := range places() {
		for _, f := range samples.Right() {
			got, e := ctl.Give(c, f)
			want := c
			want.Has, want.Give = true, f
			if e != api.OK || !samples.SameCtl(got, want) {
				t.Fatalf("%s: Give of %v is %+v, error %d", what, f, got, e)
			}
		}
	}
}

func TestGiveOfWrongFrames(t *testing.T) {
	for what, c := range places() {
		for _, f := range samples.Wrong() {
			if got, e := ctl.Give(c, f); e != api.ErrFrame || !samples.SameCtl(got, api.Ctl{}) {
				t.Fatalf("%s: Give of %v is %+v, error %d", what, f, got, e)
			}
			// Of two errors the first one is told.
			if got, e := ctl.Give(given(t, c, api.Frame{ID: 5}), f); e != api.ErrFrame || !samples.SameCtl(got, api.Ctl{}) {
				t.Fatalf("%s, with a frame: Give of %v is %+v, error %d", what, f, got, e)
			}
		}
	}
}

func TestGiveOfASecondFrame(t *testing.T) {
	for what, c := range places() {
		c = given(t, c, api.Frame{ID: 5})
		for _, f := range []api.Frame{{ID: 5}, {}, {ID: 4, Dlc: 1, Data: []byte{1}}} {
			if got, e := ctl.Give(c, f); e != api.ErrFull || !samples.SameCtl(got, api.Ctl{}) {
				t.Errorf("%s: a second Give is %+v, error %d", what, got, e)
			}
		}
	}
}

func TestDrop(t *testing.T) {
	for what, c := range places() {
		if got, ok := ctl.Drop(c); ok || !samples.SameCtl(got, c) {
			t.Errorf("%s: Drop without a frame is %+v, %v", what, got, ok)
		}
		if got, ok := ctl.Drop(given(t, c, samples.Made(5, true, false, 8))); !ok || !samples.SameCtl(got, c) {
			t.Errorf("%s: Drop is %+v, %v", what, got, ok)
		}
	}
}

// A frame is not dropped as long as it is sent, from its second bit on.
func TestDropWhileSending(t *testing.T) {
	for _, f := range samples.Some() {
		s := samples.Acked(samples.Wire(f))
		c := given(t, api.Ctl{}, f)
		for long := range len(s) {
			got, ok := ctl.Drop(c)
			want := c
			if long == 0 {
				want = api.Ctl{}
			}
			if ok != (long == 0) || !samples.SameCtl(got, want) {
				t.Fatalf("behind %d bits of %v Drop is %+v, %v", long, f, got, ok)
			}
			c = after(c, s[long:long+1])
		}
		if got, ok := ctl.Drop(c); ok || !samples.SameCtl(got, c) {
			t.Fatalf("behind %v Drop is %+v, %v", f, got, ok)
		}
	}
}

// Behind an error, or when another frame has won, it is not on the wire any more.
func TestDropBehindErrors(t *testing.T) {
	c := given(t, api.Ctl{}, own)
	for what, s := range map[string]string{
		"an error of the start":   "r",
		"a lost arbitration":      "..d",
		"an error":                many(".", 19) + "d",
		"a flag":                  many(".", 19) + "d...",
		"what is behind the flag": many(".", 19) + "d......rrr",
		"the bits between":        many(".", 19) + "d......" + many("r", 10),
	} {
		got := after(c, s)
		want := got
		want.Has, want.Give = false, api.Frame{}
		if without, ok := ctl.Drop(got); !got.Has || !ok || !samples.SameCtl(without, want) {
			t.Errorf("behind %s Drop is %+v, %v", what, without, ok)
		}
	}
}

// P8.2: Drive

func TestDrive(t *testing.T) {
	for what, dominant := range map[string]bool{
		"idle": false, "reading": false, "acknowledging": true, "having taken": false,
		"in a flag": true, "in a weak one": false, "overloaded": true, "waiting": false,
		"delimiting": false, "between": false, "holding back": false, "off": false,
	} {
		c, ok := places()[what]
		if !ok || ctl.Drive(c) == dominant {
			t.Errorf("%s: Drive is %v", what, dominant)
		}
		// A frame that waits is driven by an idle controller alone.
		if ctl.Drive(given(t, c, api.Frame{ID: 1})) == (dominant || what == "idle") {
			t.Errorf("%s, with a frame: Drive is another one", what)
		}
	}
}

// A sender drives its wire form, bit by bit.
func TestDriveOfSenders(t *testing.T) {
	for _, f := range samples.Right() {
		s := samples.Wire(f)
		if got := driven(given(t, api.Ctl{}, f), samples.Acked(s)); got != s {
			t.Fatalf("of %v %q is driven, not %q", f, got, s)
		}
	}
}

// A receiver drives nothing but the acknowledgement.
func TestDriveOfReceivers(t *testing.T) {
	for _, f := range samples.Right() {
		s := samples.Acked(samples.Wire(f))
		if got, want := driven(api.Ctl{}, s), many("r", len(s)-9)+"d"+many("r", 8); got != want {
			t.Fatalf("of %v %q is driven, not %q", f, got, want)
		}
	}
}

// The chapter's examples.
func TestExamples(t *testing.T) {
	f := api.Frame{ID: 1}
	s := samples.Wire(f)
	c := given(t, api.Ctl{}, f)
	if ctl.Drive(c) || after(c, "d").Phase != api.PhaseFrame {
		t.Errorf("with a frame it drives %v, and becomes %+v", ctl.Drive(c), after(c, "d"))
	}
	if got, said := run(c, many(".", len(s)-9)+"d"+many(".", 8)); said != many("-", len(s)-1)+"s" || got.Has {
		t.Errorf("with an acknowledgement it is told %q, and is %+v", said, got)
	}
	if got, said := run(c, many(".", len(s)-8)); said != many("-", len(s)-9)+"a" || got.Conf.TEC != 8 || got.Phase != api.PhaseFlag {
		t.Errorf("without an acknowledgement it is told %q, and is %+v", said, got)
	}
	if got, said := run(api.Ctl{}, "dddddd"); said != "-----f" || got.Conf.REC != 1 {
		t.Errorf("by six dominant bits it is told %q, and is %+v", said, got)
	}
}
