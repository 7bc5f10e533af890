package stuff_test

import (
	"slices"
	"strings"
	"testing"

	"jackstay/api"
	"jackstay/rows"
	"jackstay/stuff"
)

// run reads a text, such as d3 (three dominant bits), as a run; none is the zero one.
func run(s string) api.Alike {
	if s == "" {
		return api.Alike{}
	}
	return api.Alike{Last: s[0] == 'r', Many: s[1] - '0'}
}

// rightRuns are all of them.
func rightRuns() []string {
	return []string{"", "d1", "d2", "d3", "d4", "d5", "r1", "r2", "r3", "r4", "r5"}
}

// wrongRuns are all that are not right: too many bits, or none that are recessive.
func wrongRuns() []api.Alike {
	l := []api.Alike{{Last: true}}
	for many := 6; many < 256; many++ {
		l = append(l, api.Alike{Many: uint8(many)}, api.Alike{Last: true, Many: uint8(many)})
	}
	return l
}

// short are the bits of short rows: as many as three stuff bits may need.
const short = 14

// five returns the kind of the last five bits of s, if they are equal.
func five(s string) (byte, bool) {
	if strings.HasSuffix(s, "ddddd") || strings.HasSuffix(s, "rrrrr") {
		return s[len(s)-1], true
	}
	return 0, false
}

// stuffed is what Put should return, told by the texts' ends.
func stuffed(s string) string {
	out := ""
	for i := range len(s) {
		out += s[i : i+1]
		if kind, is := five(out); is && kind == 'd' {
			out += "r"
		} else if is {
			out += "d"
		}
	}
	return out
}

// taken is what Take should return, told by the texts' ends.
func taken(s string) (string, int) {
	out := ""
	for i := range len(s) {
		kind, is := five(s[:i])
		if is && kind == s[i] {
			return out, i
		}
		if !is {
			out += s[i : i+1]
		}
	}
	return out, -1
}

// take calls Take with a text, and tells its bits by one.
func take(s string) (string, int) {
	l, at := stuff.Take(rows.Of(s))
	return rows.Text(l), at
}

// put calls Put with a text, and tells its bits by one.
func put(s string) string { return rows.Text(stuff.Put(rows.Of(s))) }

// P2.1

func TestNext(t *testing.T) {
	for _, x := range []struct {
		from string
		bit  bool
		to   string
		kind uint8
	}{
		{"", false, "d1", api.BitPlain}, {"", true, "r1", api.BitPlain},
		{"d1", false, "d2", api.BitPlain}, {"d1", true, "r1", api.BitPlain},
		{"d2", false, "d3", api.BitPlain}, {"d2", true, "r1", api.BitPlain},
		{"d3", false, "d4", api.BitPlain}, {"d3", true, "r1", api.BitPlain},
		{"d4", false, "d5", api.BitPlain}, {"d4", true, "r1", api.BitPlain},
		{"d5", false, "d5", api.BitWrong}, {"d5", true, "r1", api.BitStuff},
		{"r1", false, "d1", api.BitPlain}, {"r1", true, "r2", api.BitPlain},
		{"r2", false, "d1", api.BitPlain}, {"r2", true, "r3", api.BitPlain},
		{"r3", false, "d1", api.BitPlain}, {"r3", true, "r4", api.BitPlain},
		{"r4", false, "d1", api.BitPlain}, {"r4", true, "r5", api.BitPlain},
		{"r5", false, "d1", api.BitStuff}, {"r5", true, "r5", api.BitWrong},
	} {
		if a, kind := stuff.Next(run(x.from), x.bit); a != run(x.to) || kind != x.kind {
			t.Errorf("after the run %q, %v makes %v, kind %d", x.from, x.bit, a, kind)
		}
	}
}

func TestOwed(t *testing.T) {
	for _, s := range rightRuns() {
		bit, due := stuff.Owed(run(s))
		if due != (s == "d5" || s == "r5") || bit != (s == "d5") {
			t.Errorf("after the run %q, %v is due: %v", s, bit, due)
		}
	}
}

func TestRunsThatAreNotRight(t *testing.T) {
	for _, a := range wrongRuns() {
		for _, bit := range []bool{true, false} {
			if next, kind := stuff.Next(a, bit); next != (api.Alike{}) || kind != api.BitWrong {
				t.Errorf("after %v, %v makes %v, kind %d", a, bit, next, kind)
			}
		}
		if bit, due := stuff.Owed(a); bit || due {
			t.Errorf("after %v, %v is due: %v", a, bit, due)
		}
	}
}

// A run tells the last bits of all that came, wrong ones among them.
func TestRunsOfRows(t *testing.T) {
	for s := range rows.UpTo(short) {
		var a api.Alike
		for i := range len(s) {
			before, _ := five(s[:i])
			want := api.BitPlain
			if before == s[i] {
				want = api.BitWrong
			} else if before != 0 {
				want = api.BitStuff
			}
			next, kind := stuff.Next(a, s[i] == 'r')
			if kind != want {
				t.Fatalf("bit %d of %q is of the kind %d", i, s, kind)
			}
			a = next
		}
		many := 0
		for many < len(s) && s[len(s)-1-many] == s[len(s)-1] {
			many++
		}
		want := api.Alike{Last: strings.HasSuffix(s, "r"), Many: uint8(min(many, 5))}
		if a != want {
			t.Fatalf("the run of %q is %v", s, a)
		}
	}
}

// P2.2

func TestPut(t *testing.T) {
	for _, x := range []struct{ plain, want string }{
		{"", ""},
		{"d", "d"},
		{"r", "r"},
		{"rdrdrdrdrd", "rdrdrdrdrd"},
		// Four are not enough, five are, at the end, too.
		{"dddd", "dddd"},
		{"rrrr", "rrrr"},
		{"ddddd", "dddddr"},
		{"rrrrr", "rrrrrd"},
		{"rrrrd", "rrrrd"},
		{"drrrrr", "drrrrrd"},
		{"rrrrrd", "rrrrrdd"},
		{"rrrrdrrrrd", "rrrrdrrrrd"},
		{"dddddd", "dddddrd"},
		{"dddddddddd", "dddddrdddddr"},
		// A stuff bit counts with the bits behind it.
		{"dddddrrr", "dddddrrrr"},
		{"dddddrrrr", "dddddrrrrrd"},
		{"rrrrrdddd", "rrrrrdddddr"},
		{"rrrrrddddrr", "rrrrrdddddrrr"},
		{"dddddrrrrdddd", "dddddrrrrrdddddr"},
		{"dddddrrrrddddrrrr", "dddddrrrrrdddddrrrrrd"},
		// What came before the last five does not count.
		{"rrrdddddrrr", "rrrdddddrrrr"},
	} {
		if s := put(x.plain); s != x.want {
			t.Errorf("Put(%q) is %q, not %q", x.plain, s, x.want)
		}
	}
}

func TestPutOfAllShortRows(t *testing.T) {
	for s := range rows.UpTo(short) {
		if got := put(s); got != stuffed(s) {
			t.Fatalf("Put(%q) is %q, not %q", s, got, stuffed(s))
		}
	}
}

// P2.3

func TestTake(t *testing.T) {
	for _, x := range []struct {
		l, want string
		at      int
	}{
		{"", "", -1},
		{"d", "d", -1},
		{"r", "r", -1},
		{"rdrrddrrr", "rdrrddrrr", -1},
		// Five equal bits at the end, with and without their stuff bit.
		{"ddddd", "ddddd", -1},
		{"dddddr", "ddddd", -1},
		{"rrrrr", "rrrrr", -1},
		{"rrrrrd", "rrrrr", -1},
		{"dddddrd", "dddddd", -1},
		// Stuff bits that count with the bits behind them.
		{"dddddrrrrrd", "dddddrrrr", -1},
		{"dddddrrrrr", "dddddrrrr", -1},
		{"rrrrrdddddrrr", "rrrrrddddrr", -1},
		// Six equal bits at the beginning, in the middle, at the end.
		{"rrrrrr", "rrrrr", 5},
		{"dddddd", "ddddd", 5},
		{"dddddddddddd", "ddddd", 5},
		{"rrrrrrdrdrdr", "rrrrr", 5},
		{"drrrrrrddd", "drrrrr", 6},
		{"rdrdddddddrdr", "rdrddddd", 8},
		{"rdrdrdrrrrrr", "rdrdrdrrrrr", 11},
		{"ddddddr", "ddddd", 5},
		// A stuff bit among them.
		{"dddddrrrrrr", "dddddrrrr", 10},
		{"rdddddrrrrrr", "rdddddrrrr", 11},
		{"rrrrrdddddd", "rrrrrdddd", 10},
		// The first of two counts, and nothing behind it.
		{"rrrrrrdddddd", "rrrrr", 5},
		{"rrrrrrrdrrrrrr", "rrrrr", 5},
	} {
		if s, at := take(x.l); s != x.want || at != x.at {
			t.Errorf("Take(%q) is %q, %d, not %q, %d", x.l, s, at, x.want, x.at)
		}
	}
}

func TestTakeOfAllShortRows(t *testing.T) {
	for s := range rows.UpTo(short) {
		want, wrong := taken(s)
		if got, at := take(s); got != want || at != wrong {
			t.Fatalf("Take(%q) is %q, %d, not %q, %d", s, got, at, want, wrong)
		}
	}
}

// Six equal bits are met wherever they are.
func TestTakeMeetsSixEqualBits(t *testing.T) {
	for _, kind := range []string{"d", "r"} {
		other := strings.Trim("dr", kind)
		for ahead := range 20 {
			for behind := range 20 {
				head := strings.Repeat(kind+other, ahead)
				l := head + strings.Repeat(kind, 6) + strings.Repeat(other+kind, behind)
				if s, at := take(l); s != head+strings.Repeat(kind, 5) || at != len(head)+5 {
					t.Fatalf("Take(%q) is %q, %d", l, s, at)
				}
			}
		}
	}
}

// P2.4

func TestTakeReturnsWhatWasPut(t *testing.T) {
	for s := range rows.UpTo(short) {
		wire := put(s)
		if got, at := take(wire); got != s || at != -1 {
			t.Fatalf("%q comes back from %q as %q, %d", s, wire, got, at)
		}
		if strings.Contains(wire, "dddddd") || strings.Contains(wire, "rrrrrr") {
			t.Fatalf("Put(%q) is %q", s, wire)
		}
		if len(wire) > len(s)+len(s)/4 {
			t.Fatalf("Put(%q) has %d bits, not %d", s, len(wire), len(s))
		}
		// A stuff bit at the end may be missing.
		if len(wire) == 0 {
			continue
		}
		if _, due := five(wire[:len(wire)-1]); due {
			if got, at := take(wire[:len(wire)-1]); got != s || at != -1 {
				t.Fatalf("%q comes back from %q without its last bit as %q, %d", s, wire, got, at)
			}
		}
	}
}

func TestPutAddsAQuarterAtMost(t *testing.T) {
	plain := "d" + strings.Repeat("ddddrrrr", 50)
	for many := 1; many <= len(plain); many++ {
		wire := put(plain[:many])
		if len(wire) != many+(many-1)/4 {
			t.Fatalf("Put of %d bits has %d", many, len(wire))
		}
		if got, at := take(wire); got != plain[:many] || at != -1 {
			t.Fatalf("%q comes back as %q, %d", plain[:many], got, at)
		}
	}
}

func TestEachFurtherEqualBitIsWrong(t *testing.T) {
	for _, bit := range []bool{true, false} {
		var a api.Alike
		for i := range 300 {
			next, kind := stuff.Next(a, bit)
			if (kind == api.BitWrong) != (i >= 5) {
				t.Fatalf("bit %d of those alike is of the kind %d", i, kind)
			}
			a = next
		}
		if owed, due := stuff.Owed(a); owed == bit || !due {
			t.Errorf("after 300 bits alike %v is due: %v", owed, due)
		}
		if next, kind := stuff.Next(a, !bit); next != (api.Alike{Last: !bit, Many: 1}) || kind != api.BitStuff {
			t.Errorf("after 300 bits alike the other one makes %v, kind %d", next, kind)
		}
	}
}

func TestOwedIsWhatNextTakes(t *testing.T) {
	for _, s := range rightRuns() {
		owed, due := stuff.Owed(run(s))
		kinds := []uint8{api.BitPlain, api.BitPlain}
		if due {
			kinds = []uint8{api.BitStuff, api.BitWrong}
		}
		_, first := stuff.Next(run(s), owed)
		_, second := stuff.Next(run(s), !owed)
		if got := []uint8{first, second}; !slices.Equal(got, kinds) {
			t.Errorf("after the run %q, what is due and the other bit are of the kinds %v", s, got)
		}
	}
}
