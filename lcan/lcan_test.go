package lcan_test

import (
	"math"
	"testing"

	"jackstay/api"
	"jackstay/lcan"
	"jackstay/samples"
)

// P16.1: buses, and events.

func TestNew(t *testing.T) {
	for nodes := 2; nodes <= 32; nodes++ {
		s, e := lcan.New(nodes)
		if want := (api.Lcan{Nodes: make([]api.Holder, nodes)}); e != api.OK || !same(s, want) {
			t.Errorf("New(%d) is %+v, error %d", nodes, s, e)
		}
	}
}

func TestNewOfWrongNumbers(t *testing.T) {
	for _, nodes := range []int{math.MinInt, -32, -2, -1, 0, 1, 33, 34, 64, 256 + 2, 1<<32 + 2, math.MaxInt} {
		if s, e := lcan.New(nodes); e != api.ErrArg || s.Nodes != nil || s.Silent != 0 {
			t.Errorf("New(%d) is %+v, error %d", nodes, s, e)
		}
	}
}

// The chapter's examples.
func TestExamples(t *testing.T) {
	s := behind(t, made(t, 3), gives(0), takes(2, 0))
	if got := behind(t, s, sends(0)); got.Silent != 1 || text(got) != "u u u 1" {
		t.Errorf("it is %+v", got)
	}
	if got := behind(t, s, offs(1), sends(0)); got.Silent != 0 || text(got) != "u o u" {
		t.Errorf("if the second one was off it is %+v", got)
	}
	becomes(t, s, takes(0, 0), nil)
	becomes(t, s, takes(0, 1), nil)
	s = behind(t, s, crashes(0), takes(1, 0))
	becomes(t, s, sends(0), nil)
	if text(s) != "x:12 u u" {
		t.Errorf("with a crash it is %+v", s)
	}
}

// step is an event, with the texts of the buses ahead of it and behind it: of each row of
// the chapter's table, where it is possible, and where a single part of what it asks for
// is missing ("").
type step struct {
	before string
	m      api.May
	after  string
}

func checkSteps(t *testing.T, l []step) {
	t.Helper()
	for _, x := range l {
		s := of(t, x.before)
		if x.after == "" {
			becomes(t, s, x.m, nil)
			continue
		}
		want := of(t, x.after)
		becomes(t, s, x.m, &want)
	}
}

func TestGive(t *testing.T) {
	checkSteps(t, []step{
		{"u u u", gives(0), "u: u u"},
		{"u u u", gives(2), "u u u:"},
		{"u u:02 u", gives(0), "u: u:02 u"},
		{"o u u", gives(0), "o: u u"},
		{"x u u", gives(0), ""},
		{"ox u u", gives(0), ""},
		{"u: u u", gives(0), ""},
		{"o: u u", gives(0), ""},
		{"x: u u", gives(0), ""},
		{"u:12 u u", gives(0), ""},
	})
}

// Frames of all kinds are given; those that are not right are not.
func TestGiveOfManyFrames(t *testing.T) {
	for _, before := range []string{"u u u", "o u u"} {
		s := of(t, before)
		for _, f := range samples.Right() {
			got, e := lcan.Step(s, api.May{What: api.MayGive, Frame: f})
			h := got.Nodes[0]
			if e != api.OK || !h.Has || !samples.Same(h.Frame, f) || text(got)[1:] != ": u u" {
				t.Fatalf("from %s with %v it is %+v, error %d", before, f, got, e)
			}
		}
		for _, f := range samples.Wrong() {
			becomes(t, s, api.May{What: api.MayGive, Frame: f}, nil)
		}
	}
	for _, f := range samples.Wrong() {
		becomes(t, of(t, "u u: x"), api.May{What: api.MayGive, Node: 1, Frame: f}, nil)
		becomes(t, of(t, "u u: x"), api.May{What: api.MayGive, Node: 2, Frame: f}, nil)
	}
}

func TestDrop(t *testing.T) {
	checkSteps(t, []step{
		{"u: u u", drops(0), "u u u"},
		{"u: u u:", drops(2), "u: u u"},
		{"u:12 u:0 u", drops(0), "u u:0 u"},
		{"o:2 u u", drops(0), "o u u"},
		{"x: u u", drops(0), ""},
		{"ox: u u", drops(0), ""},
		{"u u: u", drops(0), ""},
		{"o u: u", drops(0), ""},
		{"x u: u", drops(0), ""},
	})
}

func TestCrash(t *testing.T) {
	checkSteps(t, []step{
		{"u u u", crashes(0), "x u u"},
		{"u u u", crashes(2), "u u x"},
		{"u:2 u u", crashes(0), "x:2 u u"},
		{"u:2 u:2 u", crashes(2), "u:2 u:2 x"},
		{"o u u", crashes(0), "ox u u"},
		{"o:1 u u", crashes(0), "ox:1 u u"},
		// It may crash again.
		{"x u u", crashes(0), "x u u"},
		{"x:1 u u", crashes(0), "x:1 u u"},
		{"ox:1 u u", crashes(0), "ox:1 u u"},
		{"x x x", crashes(1), "x x x"},
	})
}

func TestTake(t *testing.T) {
	checkSteps(t, []step{
		{"u: u u", takes(1, 0), "u:1 u u"},
		{"u: u u", takes(2, 0), "u:2 u u"},
		{"u u: u", takes(0, 1), "u u:0 u"},
		{"u:2 u u", takes(1, 0), "u:12 u u"},
		{"u: u: u:", takes(1, 2), "u: u: u:1"},
		{"u: u:2 u", takes(1, 0), "u:1 u:2 u"},
		// Who has the frame may have crashed, or be off.
		{"x: u u", takes(1, 0), "x:1 u u"},
		{"o: u u", takes(1, 0), "o:1 u u"},
		{"ox:2 u u", takes(1, 0), "ox:12 u u"},
		// Who takes it may not.
		{"u: o u", takes(1, 0), ""},
		{"u: x u", takes(1, 0), ""},
		{"u: ox u", takes(1, 0), ""},
		{"u:1 o u", takes(1, 0), ""},
		{"u:1 x u", takes(1, 0), ""},
		// Its own frame.
		{"u: u u", takes(0, 0), ""},
		{"u:1 u u", takes(0, 0), ""},
		{"u u u", takes(0, 0), ""},
		// None.
		{"u u: u:", takes(1, 0), ""},
		{"o u: u:", takes(1, 0), ""},
		{"x u: u:", takes(1, 0), ""},
		// A take more.
		{"u:1 u u", takes(1, 0), "u:1 u u"},
		{"x:1 u u", takes(1, 0), "x:1 u u"},
		{"o:12 u u", takes(2, 0), "o:12 u u"},
	})
}

func TestSent(t *testing.T) {
	checkSteps(t, []step{
		// Nobody took it, some did, and all.
		{"u: u u", sends(0), "u u u 1"},
		{"u:1 u u", sends(0), "u u u 1"},
		{"u:2 u u", sends(0), "u u u 1"},
		{"u:12 u u", sends(0), "u u u"},
		{"u u u:", sends(2), "u u u 1"},
		{"u u u:01", sends(2), "u u u"},
		// Those that did not are off, or have crashed, all or some.
		{"u: o u", sends(0), "u o u 1"},
		{"u: x u", sends(0), "u x u 1"},
		{"u:2 o u", sends(0), "u o u"},
		{"u:2 x u", sends(0), "u x u"},
		{"u:2 ox u", sends(0), "u ox u"},
		{"u: o x", sends(0), "u o x"},
		{"u: ox o", sends(0), "u ox o"},
		{"u: x x", sends(0), "u x x"},
		// Those that did are.
		{"u:1 o u", sends(0), "u o u 1"},
		{"u:1 x u", sends(0), "u x u 1"},
		{"u:12 x o", sends(0), "u x o"},
		// What others have stays.
		{"u:12 u:2 o:1", sends(0), "u u:2 o:1"},
		{"u: u:02 o:1", sends(1), "u: u o:1"},
		{"u: u:2 o:1", sends(1), "u: u o:1 1"},
		// Silent is a number, not a mark.
		{"u: u u 1", sends(0), "u u u 2"},
		{"u: u u 41", sends(0), "u u u 42"},
		{"u:12 u u 41", sends(0), "u u u 41"},
		// It is not up, or has none.
		{"o: u u", sends(0), ""},
		{"x: u u", sends(0), ""},
		{"ox: u u", sends(0), ""},
		{"x:12 u u", sends(0), ""},
		{"u u: u", sends(0), ""},
		{"o u: u", sends(0), ""},
		{"x u: u", sends(0), ""},
	})
}

func TestOff(t *testing.T) {
	checkSteps(t, []step{
		{"u u u", offs(0), "o u u"},
		{"u u u", offs(2), "u u o"},
		{"u:1 u u", offs(0), "o:1 u u"},
		{"u:1 u u", offs(1), "u:1 o u"},
		{"o u u", offs(0), ""},
		{"o: u u", offs(0), ""},
		{"x u u", offs(0), ""},
		{"x: u u", offs(0), ""},
		{"ox u u", offs(0), ""},
	})
}

func TestOn(t *testing.T) {
	checkSteps(t, []step{
		{"o u u", ons(0), "u u u"},
		{"u u o", ons(2), "u u u"},
		{"o o o", ons(1), "o u o"},
		{"o:1 u u", ons(0), "u:1 u u"},
		{"u:1 o u", ons(1), "u:1 u u"},
		{"u u u", ons(0), ""},
		{"u: o u", ons(0), ""},
		{"ox u u", ons(0), ""},
		{"ox: u u", ons(0), ""},
		{"x u u", ons(0), ""},
	})
}

// Silent stays as it is but for frames that are sent.
func TestOtherEventsAreNotSilent(t *testing.T) {
	checkSteps(t, []step{
		{"u u u 3", gives(0), "u: u u 3"},
		{"u: u u 3", drops(0), "u u u 3"},
		{"u: u u 3", crashes(0), "x: u u 3"},
		{"u: u u 3", takes(1, 0), "u:1 u u 3"},
		{"u: u u 3", offs(0), "o: u u 3"},
		{"o: u u 3", ons(0), "u: u u 3"},
		{"o: u u 3", sends(0), ""},
		{"o: u u 3", offs(0), ""},
	})
}

// A node that is off, and on again, still took what it took; what it missed, it misses.
func TestOffAndOn(t *testing.T) {
	s := behind(t, made(t, 3), gives(0), takes(1, 0), offs(1), offs(2), ons(1))
	if text(s) != "u:1 u o" || behind(t, s, sends(0)).Silent != 0 {
		t.Errorf("it is %s", text(s))
	}
	s = behind(t, s, ons(2))
	if text(s) != "u:1 u u" || behind(t, s, sends(0)).Silent != 1 {
		t.Errorf("on again it is %s", text(s))
	}
}

// A frame that is given again is taken by nobody yet, whatever it is.
func TestGiveAgain(t *testing.T) {
	for _, end := range []api.May{drops(0), sends(0)} {
		s := behind(t, made(t, 3), gives(0), takes(1, 0), takes(2, 0), end, gives(0))
		if text(s) != "u: u u" {
			t.Errorf("behind %v it is %s", end, text(s))
		}
		m := may(api.MayGive, 0, 0)
		m.Frame = frameOf(7)
		s = behind(t, s, drops(0), m)
		if text(s) != "u: u u" || !samples.Same(s.Nodes[0].Frame, frameOf(7)) {
			t.Errorf("with another frame it is %+v", s)
		}
	}
}

// Numbers that no node has, for each event, where it is possible at a node.
func TestNodesThatAreNone(t *testing.T) {
	for nodes := 2; nodes <= 32; nodes++ {
		s := behind(t, made(t, nodes), gives(0), gives(nodes-1), offs(1))
		for _, node := range noNodes(nodes) {
			for what := range api.MayLast + 2 {
				for _, from := range []int{0, nodes - 1} {
					becomes(t, s, may(what, node, from), nil)
				}
			}
			becomes(t, s, takes(0, node), nil)
			becomes(t, s, takes(node, node), nil)
			becomes(t, made(t, nodes), takes(0, node), nil)
		}
		behind(t, s, takes(0, nodes-1))
	}
}

// Events of no kind, whatever their fields are.
func TestEventsOfNoKind(t *testing.T) {
	for _, before := range []string{"u u u", "u: u: o:", "x: ox o"} {
		s := of(t, before)
		for _, what := range noKinds() {
			for node := -1; node <= 3; node++ {
				for from := -1; from <= 3; from++ {
					becomes(t, s, may(what, node, from), nil)
				}
			}
			becomes(t, s, api.May{What: what}, nil)
		}
	}
}

// Fields that the table does not name do not matter.
func TestOtherFieldsDoNotMatter(t *testing.T) {
	for before, m := range map[string]api.May{
		"u u u":   {What: api.MayGive, Frame: frameOf(0)},
		"u:1 u u": {What: api.MayDrop},
		"o:1 u u": {What: api.MayCrash},
		"u u: u":  {What: api.MayTake, From: 1},
		"u: u u":  {What: api.MaySent},
		"u:2 u u": {What: api.MayOff},
		"o:2 u u": {What: api.MayOn},
	} {
		s := of(t, before)
		want := behind(t, s, m)
		for _, f := range append(samples.Wrong(), samples.Some()...) {
			for _, from := range append(noNodes(3), 0, 1, 2) {
				other := m
				if m.What != api.MayGive {
					other.Frame = f
				}
				if m.What != api.MayTake {
					other.From = from
				}
				becomes(t, s, other, &want)
			}
		}
	}
}

// Each node of buses of all sizes, alone, and with each other one.
func TestAllNodes(t *testing.T) {
	for nodes := 2; nodes <= 32; nodes++ {
		for node := range nodes {
			s := goesOn(t, story{nodes: nodes}, gives(node))
			for i := range nodes {
				goesOn(t, s, takes(i, node))
				goesOn(t, s, takes(node, i))
				goesOn(t, s, sends(i))
				goesOn(t, s, drops(i))
				goesOn(t, s, crashes(i))
				goesOn(t, goesOn(t, goesOn(t, s, offs(i)), sends(node)), ons(i))
			}
		}
	}
}

// All that buses of two and three nodes may come to, with all events.
func TestAllBuses(t *testing.T) {
	for nodes, want := range map[int]int{2: 144, 3: 8000} {
		l := all(nodes)
		if len(l) != want {
			t.Errorf("%d nodes may come to %d buses, not %d", nodes, len(l), want)
		}
		for _, s := range l {
			b := s.bus()
			if got := behind(t, made(t, nodes), s.l...); !same(got, b) {
				t.Fatalf("behind %v it is\n%+v, not\n%+v", s.l, got, b)
			}
			for _, m := range events(nodes) {
				goesOn(t, s, m)
			}
		}
	}
}
