package lcan_test

import (
	"fmt"
	"math"
	oldrand "math/rand"
	"math/rand/v2"
	"slices"
	"testing"
	"testing/quick"

	"jackstay/api"
	"jackstay/lcan"
	"jackstay/samples"
)

// The rules that hold everywhere, R1 to R7, as far as they touch this layer. It has no
// objects (R5), and no texts; numbers that no node has are R7's wrong inputs, and are
// tested with each call.

// buses are some of many kinds: behind each event of a long run, and of more nodes.
func buses(t *testing.T) []api.Lcan {
	t.Helper()
	r := rand.New(rand.NewPCG(16, 3))
	l := []api.Lcan{made(t, 2), of(t, "x o ox u"), of(t, "u:12 x:0 o: u:5 ox:3 u 7")}
	s := made(t, 4)
	for len(l) < 150 {
		if next, e := lcan.Step(s, chosen(r, 4)); e == api.OK {
			s = next
			l = append(l, s)
		}
	}
	s = behind(t, made(t, 32), gives(31), gives(0), takes(31, 0), takes(30, 31), crashes(31))
	return append(l, s)
}

// R1: every call returns, whatever its arguments are; also buses that no calls make, and
// what becomes of them.
func TestEveryBusHasAResult(t *testing.T) {
	one := func(s api.Lcan, l []api.May, m api.May) bool {
		for _, m := range append(events(len(s.Nodes)), m) {
			next, _ := lcan.Step(s, m)
			lcan.Missing(next, m.Node)
		}
		for i := range l {
			l[i].What %= 9
			l[i].Node %= 4
			l[i].From %= 4
		}
		for len(l) > 0 {
			next, many, _ := lcan.Run(s, l)
			s, l = next, l[min(many+1, len(l)):]
		}
		for node := range s.Nodes {
			lcan.Missing(s, node)
		}
		return true
	}
	if e := quick.Check(one, &quick.Config{MaxCount: 100, Rand: oldrand.New(oldrand.NewSource(16))}); e != nil {
		t.Error(e)
	}
}

// R1: marks that are missing, or too many, of buses that no calls make.
func TestBusesOfOthers(t *testing.T) {
	for _, marks := range [][]bool{nil, {}, {true}, {false, true}, make([]bool, 50), slices.Repeat([]bool{true}, 50)} {
		for _, has := range []bool{false, true} {
			for _, nodes := range []int{0, 1, 3, 7} {
				s := api.Lcan{Nodes: slices.Repeat([]api.Holder{{Has: has, Took: marks}}, nodes)}
				for _, m := range events(nodes) {
					next, _ := lcan.Step(s, m)
					for node := -1; node <= nodes; node++ {
						lcan.Missing(s, node)
						lcan.Missing(next, node)
					}
				}
				lcan.Run(s, events(nodes))
			}
		}
	}
}

// R1: buses at the end of their count, and with more nodes than there may be.
func TestBusesThatAreTooGreat(t *testing.T) {
	s := of(t, "u: u")
	s.Silent = math.MaxInt
	if _, e := lcan.Step(s, sends(0)); e != api.OK {
		t.Errorf("behind many silent frames the next one is error %d", e)
	}
	s = behind(t, api.Lcan{Nodes: make([]api.Holder, 5000)}, gives(4999), takes(4998, 4999), offs(4999))
	if l := lcan.Missing(s, 4999); len(l) != 4998 || l[4997] != 4997 {
		t.Errorf("of many nodes %d miss a frame", len(l))
	}
}

// R2: errors leave no trace: what comes then is as if they had not been.
func TestErrorsChangeNothing(t *testing.T) {
	for seed := range uint64(20) {
		r := rand.New(rand.NewPCG(seed, 2))
		nodes := 2 + r.IntN(5)
		with, without := made(t, nodes), made(t, nodes)
		for range 200 {
			m := chosen(r, nodes)
			next, e := lcan.Step(with, m)
			if with = next; e == api.OK {
				without = behind(t, without, m)
			} else if e != api.ErrLcan {
				t.Fatalf("seed %d: %v is error %d", seed, m, e)
			}
			if !same(with, without) {
				t.Fatalf("seed %d: with errors it is\n%+v, not\n%+v", seed, with, without)
			}
		}
	}
}

// R3: arguments stay as they are, and so does what is behind their ends.
func TestArgumentsStayAsTheyAre(t *testing.T) {
	for k, s := range buses(t) {
		s := roomy(s)
		nodes := min(len(s.Nodes), 6)
		l := events(nodes)
		l[0].Frame = samples.Roomy(l[0].Frame)
		before, run := image(s), fmt.Sprint(l)
		data := fmt.Sprint(samples.Whole(l[0].Frame))
		for i, m := range l {
			lcan.Step(s, m)
			lcan.Run(s, l[i:])
			lcan.Run(s, []api.May{m, l[0], gives(0), takes(1, 0), sends(0), crashes(1)})
			lcan.Missing(s, m.Node)
		}
		if image(s) != before || fmt.Sprint(l) != run || fmt.Sprint(samples.Whole(l[0].Frame)) != data {
			t.Fatalf("bus %d: %s has become %s, and %s %v", k, before, image(s), run, l)
		}
	}
}

// R3: no list of a result shares memory with another one, or with an argument; not with
// an error either, nor behind a run of nothing.
func TestResultsAreNew(t *testing.T) {
	for k, s := range buses(t) {
		s := roomy(s)
		for _, m := range events(min(len(s.Nodes), 6)) {
			m.Frame = samples.Roomy(m.Frame)
			what := fmt.Sprintf("bus %d, %s, %v", k, text(s), m)
			one, _ := lcan.Step(s, m)
			other, _, _ := lcan.Run(s, []api.May{m, m})
			none, _, _ := lcan.Run(s, nil)
			holdsApart(t, what, m.Frame.Data, s, one, other, none)
			next, _ := lcan.Step(one, m)
			holdsApart(t, what, m.Frame.Data, one, next)
		}
	}
	for nodes := 2; nodes <= 32; nodes++ {
		holdsApart(t, "New", nil, made(t, nodes), made(t, nodes))
	}
}

// R3: frames that are given twice, from the same memory, are two.
func TestFramesAreApart(t *testing.T) {
	m := gives(0)
	m.Frame = samples.Roomy(frameOf(7))
	n := m
	n.Node = 1
	s, many, e := lcan.Run(made(t, 3), []api.May{m, n, takes(2, 0)})
	if many != 3 || e != api.OK {
		t.Fatalf("%d events are made, error %d", many, e)
	}
	holdsApart(t, "two frames", m.Frame.Data, s)
	samples.Spoil(m.Frame)
	for node := range 2 {
		if f := s.Nodes[node].Frame; !samples.Same(f, frameOf(7)) {
			t.Errorf("node %d has %v", node, f)
		}
	}
}

// R3: a bus that is written over does not change what came of it, nor what it came from.
func TestBusesThatAreWrittenOver(t *testing.T) {
	for k, plain := range buses(t) {
		for _, m := range events(min(len(plain.Nodes), 4)) {
			given := roomy(plain)
			one, e := lcan.Step(given, m)
			two, _, _ := lcan.Run(given, []api.May{m, m})
			l := lcan.Missing(given, m.Node)
			want, last, missing := image(one), image(two), slices.Clone(l)
			spoil(given)
			if image(one) != want || image(two) != last || !slices.Equal(l, missing) {
				t.Fatalf("bus %d: with the argument %v changes", k, m)
			}
			given = roomy(plain)
			before := image(given)
			other, _ := lcan.Step(given, m)
			spoil(one)
			spoil(two)
			if image(given) != before || image(other) != want {
				t.Fatalf("bus %d: with a result of %v the argument changes, or another one", k, m)
			}
			if again, g := lcan.Step(given, m); !same(again, other) || g != e {
				t.Fatalf("bus %d: with a result of %v the next one changes", k, m)
			}
			for i := range l {
				l[i] = -1
			}
			if !slices.Equal(lcan.Missing(given, m.Node), missing) {
				t.Fatalf("bus %d: with a result of Missing(%d) the next one changes", k, m.Node)
			}
		}
	}
}

// R4: results hang on the arguments alone: not on the calls before, nor on a capacity.
func TestResultsHangOnArgumentsAlone(t *testing.T) {
	tell := func(s api.Lcan) string {
		told := ""
		nodes := min(len(s.Nodes), 4)
		for _, m := range events(nodes) {
			next, e := lcan.Step(s, m)
			last, many, g := lcan.Run(s, []api.May{m, crashes(1), m})
			told += fmt.Sprint(text(next), next, e, last, many, g, lcan.Missing(s, m.Node), ";")
		}
		return told
	}
	l := buses(t)
	wanted := make([]string, len(l))
	for i, s := range l {
		wanted[i] = tell(s)
	}
	for _, i := range rand.New(rand.NewPCG(16, 4)).Perm(len(l)) {
		if tell(l[i]) != wanted[i] {
			t.Fatalf("bus %d: behind other calls the results are others", i)
		}
		if tell(roomy(l[i])) != wanted[i] {
			t.Fatalf("bus %d: with room behind its lists the results are others", i)
		}
	}
}

// R6: no data, no marks, and no events, are as good as nil.
func TestEmptyIsNil(t *testing.T) {
	for k, s := range buses(t) {
		empty := roomy(s)
		for i := range empty.Nodes {
			h := &empty.Nodes[i]
			if len(h.Took) == 0 {
				h.Took = []bool{}
			}
			if len(h.Frame.Data) == 0 {
				h.Frame.Data = []byte{}
			}
		}
		for _, m := range events(min(len(s.Nodes), 4)) {
			m.Frame = api.Frame{ID: 7}
			one, e := lcan.Step(s, m)
			m.Frame.Data = []byte{}
			other, g := lcan.Step(empty, m)
			if !same(one, other) || e != g || !slices.Equal(lcan.Missing(s, m.Node), lcan.Missing(empty, m.Node)) {
				t.Fatalf("bus %d: with empty lists %v makes\n%+v, error %d, not\n%+v, error %d", k, m, other, g, one, e)
			}
		}
		holdsRun(t, s, nil, empty, 0, api.OK)
		holdsRun(t, empty, []api.May{}, s, 0, api.OK)
	}
	if s, e := lcan.Step(api.Lcan{}, gives(0)); e != api.ErrLcan || len(s.Nodes) > 0 {
		t.Errorf("without nodes it is %+v, error %d", s, e)
	}
	if s, many, e := lcan.Run(api.Lcan{Nodes: []api.Holder{}}, nil); e != api.OK || many != 0 || len(s.Nodes) > 0 {
		t.Errorf("without nodes it is %+v, error %d", s, e)
	}
}
