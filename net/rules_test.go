package net_test

import (
	"fmt"
	"math"
	oldrand "math/rand"
	"math/rand/v2"
	"reflect"
	"slices"
	"strings"
	"testing"
	"testing/quick"

	"jackstay/api"
	"jackstay/net"
	"jackstay/samples"
)

// The rules that hold everywhere, R1 to R7, as far as they touch this layer. It has no
// objects (R5), and no texts; numbers that no node has are R7's wrong inputs, and are
// tested with each call.

// call is one of each function with a net; for those that are told a number it is the
// same one, and f is the frame that is given.
type call struct {
	what string
	do   func(n api.Net, node int, f api.Frame) (results []any, ok bool)
}

// calls are all that there are.
func calls() []call {
	return []call{
		{"Give", func(n api.Net, node int, f api.Frame) ([]any, bool) {
			got, e := net.Give(n, node, f)
			return []any{got}, e == api.OK
		}},
		{"Drop", func(n api.Net, node int, f api.Frame) ([]any, bool) {
			got, ok := net.Drop(n, node)
			return []any{got}, ok
		}},
		{"Crash", func(n api.Net, node int, f api.Frame) ([]any, bool) {
			got, e := net.Crash(n, node)
			return []any{got}, e == api.OK
		}},
		{"Step", func(n api.Net, node int, f api.Frame) ([]any, bool) {
			got, line, e := net.Step(n, []int{node})
			return []any{got, line}, e == api.OK
		}},
		{"Step without flips", func(n api.Net, node int, f api.Frame) ([]any, bool) {
			got, line, e := net.Step(n, nil)
			return []any{got, line}, e == api.OK
		}},
		{"Quiet", func(n api.Net, node int, f api.Frame) ([]any, bool) {
			return []any{net.Quiet(n)}, true
		}},
	}
}

// R1: every call returns, whatever its arguments are; also nets that no calls make, and
// what becomes of them.
func TestEveryNetHasAResult(t *testing.T) {
	if got, e := net.Crash(api.Net{}, 0); e != api.ErrArg || !same(got, api.Net{}) {
		t.Errorf("Crash in a net without nodes is %+v, error %d", got, e)
	}
	if got, line, e := net.Step(api.Net{}, nil); e != api.OK || !line.Bus || len(got.Nodes) > 0 {
		t.Errorf("Step of a net without nodes is %+v, %+v, error %d", got, line, e)
	}
	one := func(n api.Net, f api.Frame, node int, flips []int) bool {
		for i := range n.Nodes {
			n.Nodes[i].Phase %= 12
		}
		for range 3 {
			for _, node := range []int{node, 0, len(n.Nodes) - 1, len(n.Nodes), len(n.Crashed), math.MinInt} {
				net.Give(n, node, f)
				net.Drop(n, node)
				net.Step(n, []int{node})
				if got, e := net.Crash(n, node); e == api.OK {
					net.Quiet(got)
				}
			}
			net.Quiet(n)
			net.Step(n, flips)
			n, _, _ = net.Step(n, nil)
		}
		return true
	}
	if e := quick.Check(one, &quick.Config{MaxCount: 300, Rand: oldrand.New(oldrand.NewSource(9))}); e != nil {
		t.Error(e)
	}
}

// R1: a net at the end of its count, and one with more nodes than there may be.
func TestNetsThatAreTooGreat(t *testing.T) {
	n := made(t, 2)
	n.Bits = math.MaxInt
	if _, line := stepped(t, n, 1); !line.Bus || line.Sampled[1] {
		t.Errorf("behind many bits it was %+v", line)
	}
	n = api.Net{Nodes: make([]api.Ctl, 5000), Crashed: make([]bool, 5000)}
	if got, line := stepped(t, given(t, n, 4999, first), 4998); line.Bus || !line.Sampled[4998] || len(got.Nodes) != 5000 || net.Quiet(got) {
		t.Errorf("with many nodes %v is on the bus", line.Bus)
	}
}

// R2: errors, and a false, leave no trace: what comes then is as if they had not been.
func TestErrorsChangeNothing(t *testing.T) {
	n := given(t, given(t, crashed(t, made(t, 4), 3), 0, first), 1, second)
	b, plain := newRun(t, n), newRun(t, n)
	for range 250 {
		for _, node := range append(noNodes(n), 3) {
			b.n, _ = net.Give(b.n, node, first)
			b.n, _ = net.Drop(b.n, node)
			if node != 3 {
				b.n, _ = net.Crash(b.n, node)
				b.n, _, _ = net.Step(b.n, []int{0, node})
			}
		}
		b.n, _ = net.Give(b.n, 2, api.Frame{ID: 1 << 11})
		b.n, _ = net.Drop(b.n, 2)
		b.step()
		plain.step()
	}
	if b.row != plain.row || !slices.Equal(b.told, plain.told) || !same(b.n, plain.n) {
		t.Errorf("with errors it is told %q, and without %q", b.told, plain.told)
	}
	if !samples.Are(b.sent[0], first) || !samples.Are(b.sent[1], second) {
		t.Errorf("with errors %v is sent", b.sent)
	}
}

// span is the memory of a list, with the room behind its end.
type span struct{ from, to uintptr }

// spans are those of all lists in a value.
func spans(v reflect.Value) []span {
	var l []span
	switch v.Kind() {
	case reflect.Slice:
		if v.Cap() == 0 {
			return nil
		}
		from := v.Pointer()
		l = append(l, span{from, from + uintptr(v.Cap())*v.Type().Elem().Size()})
		whole := v.Slice(0, v.Cap())
		for i := range whole.Len() {
			l = append(l, spans(whole.Index(i))...)
		}
	case reflect.Struct:
		for i := range v.NumField() {
			l = append(l, spans(v.Field(i))...)
		}
	}
	return l
}

// image is a value as a text, with what is in the room behind the ends of its lists.
func image(v reflect.Value) string {
	switch v.Kind() {
	case reflect.Slice:
		var s strings.Builder
		for i := range v.Cap() {
			s.WriteString(image(v.Slice(0, v.Cap()).Index(i)) + " ")
		}
		return fmt.Sprintf("%d[%s]", v.Len(), s.String())
	case reflect.Struct:
		var s strings.Builder
		for i := range v.NumField() {
			s.WriteString(image(v.Field(i)) + " ")
		}
		return "{" + s.String() + "}"
	}
	return fmt.Sprint(v.Interface())
}

// roomy is n with room behind the ends of all its lists, which is filled.
func roomy(n api.Net) api.Net {
	var nodes []api.Ctl
	for _, c := range append(slices.Clone(n.Nodes), api.Ctl{Has: true, Give: first}, api.Ctl{Phase: api.PhaseFlag}) {
		nodes = append(nodes, samples.RoomyCtl(c))
	}
	n.Crashed = append(slices.Clone(n.Crashed), true, true)[:len(n.Crashed)]
	n.Nodes = nodes[:len(n.Nodes)]
	return n
}

// roomyFrame is a frame with room behind its data.
func roomyFrame() api.Frame { return samples.Roomy(samples.Made(5, false, false, 8)) }

// R3: arguments stay as they are, and so does what is behind their ends.
func TestArgumentsStayAsTheyAre(t *testing.T) {
	f := roomyFrame()
	for k, n := range nets(t) {
		n := roomy(n)
		before, frame := image(reflect.ValueOf(n)), image(reflect.ValueOf(f))
		for node := -1; node <= min(len(n.Nodes), 6); node++ {
			for _, x := range calls() {
				x.do(n, node, f)
				if image(reflect.ValueOf(n)) != before || image(reflect.ValueOf(f)) != frame {
					t.Fatalf("net %d: %s changes its arguments", k, x.what)
				}
			}
		}
		flips := []int{0, 1, 0, 7, 8}
		if net.Step(n, flips[:3]); !slices.Equal(flips, []int{0, 1, 0, 7, 8}) || image(reflect.ValueOf(n)) != before {
			t.Fatalf("net %d: Step changes its arguments", k)
		}
	}
}

// R3: no list of a result shares memory with another one, or with an argument; a net
// that is returned with an error is the argument.
func TestResultsAreNew(t *testing.T) {
	f := roomyFrame()
	some := 0
	for k, n := range nets(t) {
		n := roomy(n)
		args := append(spans(reflect.ValueOf(n)), spans(reflect.ValueOf(f))...)
		for node := range min(len(n.Nodes), 6) {
			for _, x := range calls() {
				results, ok := x.do(n, node, f)
				if !ok {
					continue
				}
				all := slices.Clone(args)
				for _, result := range results {
					all = append(all, spans(reflect.ValueOf(result))...)
				}
				some += len(all) - len(args)
				checkApart(t, fmt.Sprintf("net %d: %s of %d", k, x.what, node), all, len(args))
			}
		}
	}
	for nodes := 2; nodes <= 32; nodes++ {
		l := spans(reflect.ValueOf([]api.Net{made(t, nodes), made(t, nodes)}))
		checkApart(t, "New", l, 0)
		some += len(l)
	}
	if some < 10000 {
		t.Errorf("there are %d lists", some)
	}
}

// checkApart holds all spans to be apart, but for the first ones among each other.
func checkApart(t *testing.T, what string, l []span, args int) {
	t.Helper()
	for i, a := range l {
		for _, b := range l[max(i+1, args):] {
			// A list's elements have lists of their own elsewhere.
			if a.from < b.to && b.from < a.to {
				t.Fatalf("%s: lists share memory", what)
			}
		}
	}
}

// R4: results hang on the arguments alone: not on the calls before, nor on other nets.
func TestResultsHangOnArgumentsAlone(t *testing.T) {
	l := nets(t)
	wanted := make([]string, len(l))
	tell := func(n api.Net, at int) string {
		var s strings.Builder
		for node := range min(len(n.Nodes), 4) {
			for _, x := range calls() {
				results, ok := x.do(n, node, second)
				for _, result := range results {
					s.WriteString(fmt.Sprint(x.what, at, ok, result))
				}
			}
		}
		return s.String()
	}
	for i, n := range l {
		wanted[i] = tell(n, i)
	}
	r := rand.New(rand.NewPCG(9, 4))
	for _, i := range r.Perm(len(l)) {
		if tell(l[i], i) != wanted[i] {
			t.Fatalf("net %d: behind other calls the results are others", i)
		}
	}
}

// R4: nor on a capacity.
func TestCapacityDoesNotMatter(t *testing.T) {
	for k, n := range nets(t) {
		wide := roomy(n)
		for node := -1; node <= min(len(n.Nodes), 4); node++ {
			if got, want := net.Quiet(wide), net.Quiet(n); got != want {
				t.Fatalf("net %d: with room Quiet is %v", k, got)
			}
			one, e := net.Give(wide, node, roomyFrame())
			other, g := net.Give(n, node, samples.Made(5, false, false, 8))
			checkSame(t, "Give", one, other, e, g)
			one, e = net.Crash(wide, node)
			other, g = net.Crash(n, node)
			checkSame(t, "Crash", one, other, e, g)
			one, is := net.Drop(wide, node)
			other, was := net.Drop(n, node)
			checkSame(t, "Drop", one, other, is, was)
			one, line, e := net.Step(wide, []int{node, 3, 4, 99}[:1])
			other, want, g := net.Step(n, []int{node})
			checkSame(t, "Step", one, other, e, g)
			if !sameLine(line, want) {
				t.Fatalf("net %d: with room a step was %+v, not %+v", k, line, want)
			}
		}
	}
}

// checkSame holds two results of a call to be the same.
func checkSame(t *testing.T, what string, one, other api.Net, said, says any) {
	t.Helper()
	if !same(one, other) || said != says {
		t.Fatalf("%s is\n%+v, %v, not\n%+v, %v", what, one, said, other, says)
	}
}

// R6: no flips, no bits, and no data, are as good as nil.
func TestEmptyIsNil(t *testing.T) {
	for _, n := range nets(t) {
		empty := n
		empty.Nodes = slices.Clone(n.Nodes)
		for i := range empty.Nodes {
			c := &empty.Nodes[i]
			if len(c.Wire) == 0 {
				c.Wire = []bool{}
			}
			if len(c.Take.Bits) == 0 {
				c.Take.Bits = []bool{}
			}
			if len(c.Give.Data) == 0 {
				c.Give.Data = []byte{}
			}
		}
		for node := range min(len(n.Nodes), 5) {
			one, e := net.Give(n, node, api.Frame{ID: 7})
			other, g := net.Give(empty, node, api.Frame{ID: 7, Data: []byte{}})
			checkSame(t, "Give", other, one, g, e)
			one, is := net.Drop(n, node)
			other, was := net.Drop(empty, node)
			checkSame(t, "Drop", other, one, was, is)
		}
		one, line := stepped(t, n)
		other, also, e := net.Step(empty, []int{})
		checkSame(t, "Step", other, one, e, api.OK)
		if !sameLine(line, also) || net.Quiet(n) != net.Quiet(empty) {
			t.Fatalf("with empty lists a step was %+v, not %+v", also, line)
		}
	}
}
