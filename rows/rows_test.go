package rows_test

import (
	"slices"
	"testing"

	"jackstay/rows"
)

func TestRows(t *testing.T) {
	l := rows.Of("rdd")
	if !slices.Equal(l, []bool{true, false, false}) {
		t.Errorf("rdd is %v", l)
	}
	if s := rows.Text(l); s != "rdd" {
		t.Errorf("%v is %q", l, s)
	}
	rows.Turn(l)
	if !slices.Equal(l, []bool{false, true, true}) {
		t.Errorf("rdd inverted is %v", l)
	}
	if s := rows.Turned("rddr", 1); s != "rrdr" {
		t.Errorf("rddr with its second bit inverted is %q", s)
	}
	if len(rows.Of("")) != 0 || rows.Text(nil) != "" {
		t.Error("no bits are some")
	}
}

func TestUpTo(t *testing.T) {
	want := []string{"", "d", "r", "dd", "dr", "rd", "rr"}
	if got := slices.Collect(rows.UpTo(2)); !slices.Equal(got, want) {
		t.Errorf("the rows of at most 2 bits are %q", got)
	}
	if got := slices.Collect(rows.UpTo(-1)); len(got) != 0 {
		t.Errorf("the rows of less than no bits are %q", got)
	}
	for s := range rows.UpTo(2) {
		if s == "dr" {
			break
		}
	}
}

func TestLists(t *testing.T) {
	same := func(a, b []int) bool { return slices.Equal(a, b) }
	want := [][]int{nil, {5}, {3}, {5, 5}, {5, 3}, {3, 5}, {3, 3}}
	if got := slices.Collect(rows.Lists([]int{5, 3}, 2)); !slices.EqualFunc(got, want, same) {
		t.Errorf("the lists of at most 2 of 5 and 3 are %v", got)
	}
	if got := slices.Collect(rows.Lists([]int{5, 3}, 0)); !slices.EqualFunc(got, want[:1], same) {
		t.Errorf("the lists of none are %v", got)
	}
	if got := slices.Collect(rows.Lists([]int(nil), 2)); !slices.EqualFunc(got, want[:1], same) {
		t.Errorf("the lists of nothing are %v", got)
	}
	for l := range rows.Lists([]int{5, 3}, 2) {
		if same(l, want[3]) {
			break
		}
	}
}
