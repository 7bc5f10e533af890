package stuff_test

import (
	"slices"
	"testing"

	"jackstay/api"
	"jackstay/rows"
	"jackstay/stuff"
)

// The rules that hold everywhere, R1 to R7, as far as they touch this layer. It
// has no errors, no objects (R5) and no texts.

// R1, R2, R7: every run has a result; beside a false, and for runs that are beyond
// what they may be, the others are zero.
func TestEveryRunHasAResult(t *testing.T) {
	for many := range 256 {
		for _, last := range []bool{true, false} {
			a := api.Alike{Last: last, Many: uint8(many)}
			if bit, due := stuff.Owed(a); bit && !due {
				t.Errorf("after %v none is due, and it is recessive", a)
			}
			for _, bit := range []bool{true, false} {
				next, kind := stuff.Next(a, bit)
				if kind > api.BitWrong || next.Many > api.MaxAlike {
					t.Errorf("after %v, %v makes %v, kind %d", a, bit, next, kind)
				}
				if many > api.MaxAlike && next != (api.Alike{}) {
					t.Errorf("after %v, %v makes %v", a, bit, next)
				}
			}
		}
	}
}

// R1: long rows are as good as short ones.
func TestLongRows(t *testing.T) {
	l := slices.Repeat(rows.Of("rddddddddddrdrrrrrrrdrd"), 1<<16)
	wire := stuff.Put(l)
	if got, at := stuff.Take(wire); !slices.Equal(got, l) || at != -1 {
		t.Errorf("a long row does not come back: wrong at %d", at)
	}
	equal := make([]bool, 1<<20)
	if n := len(stuff.Put(equal)); n != len(equal)+len(equal)/5 {
		t.Errorf("%d equal bits become %d", len(equal), n)
	}
	if got, at := stuff.Take(equal); len(got) != 5 || at != 5 {
		t.Errorf("of %d equal bits %d are taken, and %d is wrong", len(equal), len(got), at)
	}
}

// R3: the bits of an argument, and those behind its end, stay as they are.
func TestBitsStayAsTheyAre(t *testing.T) {
	plain := rows.Of("dddddrrrrddddrrrrrrrrrrdddddddd")
	for _, whole := range [][]bool{plain, stuff.Put(plain)} {
		before := slices.Clone(whole)
		for long := range len(whole) + 1 {
			stuff.Put(whole[:long])
			stuff.Take(whole[:long])
			if !slices.Equal(whole, before) {
				t.Fatalf("%d bits of %q have changed", long, rows.Text(before))
			}
		}
	}
}

// R3: a result shares no memory with the argument, nor with another result, in its
// spare capacity neither.
func TestResultsAreNew(t *testing.T) {
	take := func(l []bool) []bool {
		out, _ := stuff.Take(l)
		return out
	}
	for _, s := range []string{"r", "rdrd", "dddddrrrrrd", "dddddd", "rrrrrdddddrrr"} {
		for name, call := range map[string]func([]bool) []bool{"Put": stuff.Put, "Take": take} {
			l := rows.Of(s)
			first, second := call(l), call(l)
			want := rows.Text(second)
			rows.Turn(first[:cap(first)])
			if rows.Text(l) != s {
				t.Errorf("a result of %s of %q shares its memory", name, s)
			}
			if rows.Text(second) != want {
				t.Errorf("results of %s of %q share memory", name, s)
			}
			rows.Turn(l)
			if rows.Text(second) != want {
				t.Errorf("%s keeps %q", name, s)
			}
		}
	}
}

// R4: a call's results hang on its arguments alone, not on the calls before it.
func TestResultsHangOnArgumentsAlone(t *testing.T) {
	for round := range 3 {
		if s := put("dddd"); s != "dddd" {
			t.Errorf("round %d: Put is %q", round, s)
		}
		if s, at := take("dddd"); s != "dddd" || at != -1 {
			t.Errorf("round %d: Take is %q, %d", round, s, at)
		}
		if a, kind := stuff.Next(run("d4"), false); a != run("d5") || kind != api.BitPlain {
			t.Errorf("round %d: Next is %v, %d", round, a, kind)
		}
		if bit, due := stuff.Owed(run("d5")); !bit || !due {
			t.Errorf("round %d: Owed is %v, %v", round, bit, due)
		}
	}
}

// R4: nor on a capacity.
func TestCapacityDoesNotMatter(t *testing.T) {
	whole := rows.Of("dddddrrrrddddrrrrrrr")
	for _, l := range [][]bool{whole[:9], whole[:9:9]} {
		if s := rows.Text(stuff.Put(l)); s != "dddddrrrrrd" {
			t.Errorf("with the capacity %d Put is %q", cap(l), s)
		}
		if got, at := stuff.Take(l); rows.Text(got) != "dddddrrr" || at != -1 {
			t.Errorf("with the capacity %d Take is %q, %d", cap(l), rows.Text(got), at)
		}
	}
}

// R6: an empty slice is as good as nil.
func TestEmptyIsNil(t *testing.T) {
	for _, l := range [][]bool{nil, {}, make([]bool, 0, 16)} {
		if out := stuff.Put(l); len(out) != 0 {
			t.Errorf("no bits, nil %v, become %v", l == nil, out)
		}
		if out, at := stuff.Take(l); len(out) != 0 || at != -1 {
			t.Errorf("of no bits, nil %v, %v are taken, and %d is wrong", l == nil, out, at)
		}
	}
}
