package rows_test

import (
	"slices"
	"testing"

	"jackstay/rows"
)

func TestRows(t *testing.T) {
	l := rows.Of("rdd")
	if !slices.Equal(l, []bool{true, false, false}) {
		t.Errorf("rdd is %v", l)
	}
	if s := rows.Text(l); s != "rdd" {
		t.Errorf("%v is %q", l, s)
	}
	rows.Turn(l)
	if !slices.Equal(l, []bool{false, true, true}) {
		t.Errorf("rdd inverted is %v", l)
	}
	if len(rows.Of("")) != 0 || rows.Text(nil) != "" {
		t.Error("no bits are some")
	}
}
