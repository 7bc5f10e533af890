package clone_test

import (
	"testing"

	"jackstay/api"
	"jackstay/clone"
	"jackstay/rows"
	"jackstay/samples"
)

// made is a controller with bits and bytes in all its lists.
func made() api.Ctl {
	return api.Ctl{
		Phase: api.PhaseFrame, N: 2, Conf: api.Conf{TEC: 3, REC: 4},
		Has: true, Give: samples.Made(5, true, false, 8),
		Sends: true, Sender: true, Wire: rows.Of("drdd"), At: 3,
		Take: api.Taking{Bits: rows.Of("drd"), Row: api.Alike{Many: 1}},
	}
}

func TestFrame(t *testing.T) {
	for _, spoilt := range []int{0, 1} {
		one := samples.Made(5, true, false, 8)
		l := []api.Frame{one, clone.Frame(one)}
		if !samples.Same(l[0], l[1]) {
			t.Errorf("of %v the copy is %v", l[0], l[1])
		}
		clear(l[spoilt].Data)
		if other := l[1-spoilt]; !samples.Same(other, samples.Made(5, true, false, 8)) {
			t.Errorf("one changes with the other: it is %v", other)
		}
	}
	if got := clone.Frame(api.Frame{}); !samples.Same(got, api.Frame{}) {
		t.Errorf("the copy of a zero frame is %v", got)
	}
}

// What is copied is the same, and stays so, whatever becomes of the other one.
func TestCtl(t *testing.T) {
	for _, spoilt := range []int{0, 1} {
		one := made()
		l := []api.Ctl{one, clone.Ctl(one)}
		if !samples.SameCtl(l[0], l[1]) {
			t.Errorf("of\n%+v the copy is\n%+v", l[0], l[1])
		}
		clear(l[spoilt].Give.Data)
		rows.Turn(l[spoilt].Wire)
		rows.Turn(l[spoilt].Take.Bits)
		if other := l[1-spoilt]; !samples.SameCtl(other, made()) {
			t.Errorf("one changes with the other: it is\n%+v", other)
		}
	}
	if got := clone.Ctl(api.Ctl{}); !samples.SameCtl(got, api.Ctl{}) {
		t.Errorf("the copy of a zero controller is %+v", got)
	}
}
