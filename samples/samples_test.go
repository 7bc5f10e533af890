package samples_test

import (
	"bytes"
	"math/rand/v2"
	"slices"
	"testing"

	"jackstay/api"
	"jackstay/rows"
	"jackstay/samples"
)

func TestSame(t *testing.T) {
	f := api.Frame{ID: 5, Dlc: 1, Data: []byte{7}}
	if !samples.Same(f, api.Frame{ID: 5, Dlc: 1, Data: []byte{7}}) || !samples.Same(api.Frame{}, api.Frame{Data: []byte{}}) {
		t.Error("frames that are the same are not")
	}
	for _, other := range []api.Frame{
		{ID: 6, Dlc: 1, Data: []byte{7}},
		{ID: 5, Ext: true, Dlc: 1, Data: []byte{7}},
		{ID: 5, Remote: true, Dlc: 1, Data: []byte{7}},
		{ID: 5, Dlc: 2, Data: []byte{7}},
		{ID: 5, Dlc: 1, Data: []byte{8}},
		{ID: 5, Dlc: 1},
	} {
		if samples.Same(f, other) || samples.Same(other, f) {
			t.Errorf("%v and %v are the same", f, other)
		}
	}
}

func TestData(t *testing.T) {
	for many := range 12 {
		if n := len(samples.Data(many)); n != many {
			t.Errorf("of %d bytes there are %d", many, n)
		}
	}
}

func TestMemory(t *testing.T) {
	f := api.Frame{ID: 5, Dlc: 1, Data: []byte{7}}
	roomy := samples.Roomy(f)
	whole := samples.Whole(roomy)
	if !samples.Same(roomy, f) || len(whole.Data) < 2 || whole.ID != 5 {
		t.Errorf("with room behind its data %v is %v, the whole of it %v", f, roomy, whole)
	}
	before := bytes.Clone(whole.Data)
	samples.Spoil(roomy)
	for i, b := range whole.Data {
		if b == before[i] {
			t.Errorf("byte %d of %d is not written over", i, len(before))
		}
	}
	if f.Data[0] != 7 {
		t.Errorf("what is written over has the memory of another frame, which is %v now", f)
	}
	samples.Spoil(api.Frame{})
}

func TestMemoryOfControllers(t *testing.T) {
	c := api.Ctl{N: 3, Give: samples.Made(5, false, false, 2), Wire: rows.Of("drd")}
	c.Take.Bits = rows.Of("rr")
	roomy := samples.RoomyCtl(c)
	whole := samples.WholeCtl(roomy)
	if !samples.SameCtl(roomy, c) || len(whole.Give.Data) < 3 || len(whole.Wire) < 4 || len(whole.Take.Bits) < 3 || whole.N != 3 {
		t.Errorf("with room behind its slices %+v is %+v, the whole of it %+v", c, roomy, whole)
	}
	data, wire, bits := string(whole.Give.Data), rows.Text(whole.Wire), rows.Text(whole.Take.Bits)
	samples.SpoilCtl(roomy)
	for i := range data {
		if whole.Give.Data[i] == data[i] {
			t.Errorf("byte %d of %d is not written over", i, len(data))
		}
	}
	rows.Turn(whole.Wire)
	rows.Turn(whole.Take.Bits)
	if rows.Text(whole.Wire) != wire || rows.Text(whole.Take.Bits) != bits {
		t.Errorf("not all bits are written over: %+v", whole)
	}
	if rows.Text(c.Wire) != "drd" || rows.Text(c.Take.Bits) != "rr" || !samples.Same(c.Give, samples.Made(5, false, false, 2)) {
		t.Errorf("what is written over has the memory of another one, which is %+v now", c)
	}
	samples.SpoilCtl(api.Ctl{})
}

func TestSameCtl(t *testing.T) {
	c := api.Ctl{Phase: 1, N: 2, Wire: []bool{true}, Give: api.Frame{ID: 5}}
	again := c
	again.Wire, again.Take.Bits = []bool{true}, []bool{}
	if !samples.SameCtl(c, again) || !samples.SameCtl(api.Ctl{}, api.Ctl{Wire: []bool{}, Give: api.Frame{Data: []byte{}}}) {
		t.Error("controllers that are the same are not")
	}
	for i, change := range []func(*api.Ctl){
		func(c *api.Ctl) { c.Phase++ }, func(c *api.Ctl) { c.N++ }, func(c *api.Ctl) { c.Conf.TEC++ },
		func(c *api.Ctl) { c.Has = true }, func(c *api.Ctl) { c.Give.ID++ },
		func(c *api.Ctl) { c.Sends = true }, func(c *api.Ctl) { c.Sender = true },
		func(c *api.Ctl) { c.Wire = []bool{false} }, func(c *api.Ctl) { c.At++ },
		func(c *api.Ctl) { c.Take.Row.Many++ }, func(c *api.Ctl) { c.Take.Bits = []bool{true} },
		func(c *api.Ctl) { c.Take.Place++ }, func(c *api.Ctl) { c.Take.Fits = true },
		func(c *api.Ctl) { c.Row.Last = true }, func(c *api.Ctl) { c.Error = true }, func(c *api.Ctl) { c.Owed = true },
	} {
		other := c
		if change(&other); samples.SameCtl(c, other) || samples.SameCtl(other, c) {
			t.Errorf("change %d is none", i)
		}
	}
}

func TestWire(t *testing.T) {
	s := samples.Wire(api.Frame{ID: 1})
	const body = "dddddrdddddrdrdddddrdddrdddrddddrddrr"
	if s != body+"rrrrrrrrrr" {
		t.Errorf("ID 1 is %q", s)
	}
	if got := samples.Acked(s); got != body+"rdrrrrrrrr" || samples.OnBus(api.Frame{ID: 1}) != got {
		t.Errorf("ID 1, acknowledged, is %q", got)
	}
}

func TestAre(t *testing.T) {
	f, g := api.Frame{ID: 5, Data: []byte{}}, api.Frame{ID: 6}
	if !samples.Are([]api.Frame{f, g}, api.Frame{ID: 5}, g) || !samples.Are(nil) {
		t.Error("frames that are the wanted ones are not")
	}
	for _, l := range [][]api.Frame{nil, {f}, {g, f}, {f, f}, {f, g, g}} {
		if samples.Are(l, f, g) {
			t.Errorf("%v are %v", l, []api.Frame{f, g})
		}
	}
}

func TestApart(t *testing.T) {
	for _, many := range []int{0, 1, 7, 42} {
		l := samples.Apart(rand.New(rand.NewPCG(uint64(many), 0)).Perm, many)
		if len(l) != many {
			t.Fatalf("of %d frames there are %d", many, len(l))
		}
		for i, f := range l {
			same := func(g api.Frame) bool { return f.ID == g.ID && f.Ext == g.Ext && f.Remote == g.Remote }
			if samples.Wire(f) == "" || slices.IndexFunc(l, same) != i {
				t.Errorf("%v is not right, or one of several", f)
			}
		}
	}
}

func TestSorted(t *testing.T) {
	l := []api.Frame{{ID: 9}, {ID: 5, Remote: true}, {ID: 5, Data: []byte{}}, {ID: 6 << 18, Ext: true}, {ID: 0x7ff}}
	if got := samples.Sorted(l); !slices.Equal(got, []int{2, 1, 3, 0, 4}) {
		t.Errorf("%v are sorted by %v", l, got)
	}
	if got := samples.Sorted(nil); len(got) != 0 {
		t.Errorf("no frames are sorted by %v", got)
	}
}

func TestSome(t *testing.T) {
	for _, f := range samples.Some() {
		if samples.Wire(f) == "" {
			t.Errorf("%v is not right", f)
		}
	}
}
