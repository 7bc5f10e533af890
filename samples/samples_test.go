package samples_test

import (
	"testing"

	"jackstay/api"
	"jackstay/samples"
)

func TestSame(t *testing.T) {
	f := api.Frame{ID: 5, Dlc: 1, Data: []byte{7}}
	if !samples.Same(f, api.Frame{ID: 5, Dlc: 1, Data: []byte{7}}) || !samples.Same(api.Frame{}, api.Frame{Data: []byte{}}) {
		t.Error("frames that are the same are not")
	}
	for _, other := range []api.Frame{
		{ID: 6, Dlc: 1, Data: []byte{7}},
		{ID: 5, Ext: true, Dlc: 1, Data: []byte{7}},
		{ID: 5, Remote: true, Dlc: 1, Data: []byte{7}},
		{ID: 5, Dlc: 2, Data: []byte{7}},
		{ID: 5, Dlc: 1, Data: []byte{8}},
		{ID: 5, Dlc: 1},
	} {
		if samples.Same(f, other) || samples.Same(other, f) {
			t.Errorf("%v and %v are the same", f, other)
		}
	}
}

func TestData(t *testing.T) {
	for many := range 12 {
		if n := len(samples.Data(many)); n != many {
			t.Errorf("of %d bytes there are %d", many, n)
		}
	}
}
