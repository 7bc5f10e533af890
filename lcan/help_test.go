package lcan_test

import (
	"fmt"
	"math"
	"math/rand/v2"
	"slices"
	"strconv"
	"strings"
	"testing"

	"jackstay/api"
	"jackstay/lcan"
	"jackstay/samples"
)

// frameOf is the frame that a node is given in these tests.
func frameOf(node int) api.Frame {
	return samples.Made(uint32(node&0xff), node%2 == 1, false, uint8(1+node&7))
}

// may is an event with all its fields.
func may(what uint8, node, from int) api.May {
	return api.May{What: what, Node: node, From: from, Frame: frameOf(node)}
}

func gives(node int) api.May       { return may(api.MayGive, node, 0) }
func drops(node int) api.May       { return may(api.MayDrop, node, 0) }
func crashes(node int) api.May     { return may(api.MayCrash, node, 0) }
func takes(node, from int) api.May { return may(api.MayTake, node, from) }
func sends(node int) api.May       { return may(api.MaySent, node, 0) }
func offs(node int) api.May        { return may(api.MayOff, node, 0) }
func ons(node int) api.May         { return may(api.MayOn, node, 0) }

// noKinds are numbers that no kind of event has.
func noKinds() []uint8 { return []uint8{0, 8, 9, 16, 127, 128, 129, 131, 132, 255} }

// noNodes are numbers that no node of a bus with so many nodes has.
func noNodes(nodes int) []int {
	return []int{-1, nodes, nodes + 1, -nodes, 256, 1<<32 + 1, -1 << 32, math.MinInt, math.MaxInt}
}

// made is a bus with so many nodes.
func made(t *testing.T, nodes int) api.Lcan {
	t.Helper()
	s, e := lcan.New(nodes)
	if e != api.OK {
		t.Fatalf("New(%d) is error %d", nodes, e)
	}
	return s
}

// behind is s behind events, all of which are possible.
func behind(t *testing.T, s api.Lcan, l ...api.May) api.Lcan {
	t.Helper()
	for i, m := range l {
		next, e := lcan.Step(s, m)
		if e != api.OK {
			t.Fatalf("event %d of %v is error %d from %s", i, l, e, text(s))
		}
		s = next
	}
	return s
}

// text is a bus as a text, with a word for each node: u is up, o is off, x has crashed,
// ox both; with a frame, a colon, and the nodes that took it, by one digit or letter
// each. How many frames were lost silently is the last word, if there are some.
func text(s api.Lcan) string {
	var l []string
	for _, h := range s.Nodes {
		word := map[[2]bool]string{{}: "u", {true, false}: "o", {false, true}: "x", {true, true}: "ox"}[[2]bool{h.Off, h.Crashed}]
		if h.Has {
			word += ":"
		}
		for node, took := range h.Took {
			if took {
				word += strconv.FormatInt(int64(node), 36)
			}
		}
		l = append(l, word)
	}
	if s.Silent != 0 {
		l = append(l, strconv.Itoa(s.Silent))
	}
	return strings.Join(l, " ")
}

// of is the bus that a text says, made by events.
func of(t *testing.T, s string) api.Lcan {
	t.Helper()
	words := strings.Fields(s)
	silent, e := strconv.Atoi(words[len(words)-1])
	if e == nil {
		words = words[:len(words)-1]
	}
	b := made(t, len(words))
	for node, word := range words {
		_, by, has := strings.Cut(word, ":")
		if has {
			b = behind(t, b, gives(node))
		}
		for _, digit := range by {
			taker, _ := strconv.ParseInt(string(digit), 36, 0)
			b = behind(t, b, takes(int(taker), node))
		}
	}
	for node, word := range words {
		if word[0] == 'o' {
			b = behind(t, b, offs(node))
		}
		if strings.Contains(word, "x") {
			b = behind(t, b, crashes(node))
		}
	}
	b.Silent = silent
	return b
}

// same reports whether two buses are.
func same(a, b api.Lcan) bool {
	return a.Silent == b.Silent && slices.EqualFunc(a.Nodes, b.Nodes, func(g, h api.Holder) bool {
		return g.Has == h.Has && samples.Same(g.Frame, h.Frame) && slices.Equal(g.Took, h.Took) && g.Crashed == h.Crashed && g.Off == h.Off
	})
}

// becomes holds a step to what should become of s; nil is an event that is not possible.
func becomes(t *testing.T, s api.Lcan, m api.May, want *api.Lcan) {
	t.Helper()
	got, e := lcan.Step(s, m)
	switch {
	case want == nil && (e != api.ErrLcan || !same(got, s)):
		t.Fatalf("from %s %v makes\n%+v, error %d, which it does not", text(s), m, got, e)
	case want != nil && (e != api.OK || !same(got, *want)):
		t.Fatalf("from %s %v makes\n%+v, error %d, not\n%+v", text(s), m, got, e, *want)
	}
}

// whole is s with all memory that it has: what is behind the ends of its lists, too.
func whole(s api.Lcan) api.Lcan {
	s.Nodes = slices.Clone(s.Nodes[:cap(s.Nodes)])
	for i := range s.Nodes {
		h := &s.Nodes[i]
		h.Frame, h.Took = samples.Whole(h.Frame), h.Took[:cap(h.Took)]
	}
	return s
}

// image is all memory of s as a text.
func image(s api.Lcan) string { return fmt.Sprintf("%d %+v", len(s.Nodes), whole(s)) }

// roomy is s in memory of its own, with room behind the ends of all its lists, which is
// filled.
func roomy(s api.Lcan) api.Lcan {
	more := api.Holder{Has: true, Frame: frameOf(5), Took: []bool{true, false, true}, Crashed: true}
	nodes := append(slices.Clone(s.Nodes), more, more)
	for i := range nodes {
		h := &nodes[i]
		h.Frame = samples.Roomy(h.Frame)
		h.Took = append(slices.Clone(h.Took), true, false, true)[:len(h.Took)]
	}
	s.Nodes = nodes[:len(s.Nodes)]
	return s
}

// spoil writes over all memory of s.
func spoil(s api.Lcan) {
	for _, h := range whole(s).Nodes {
		samples.Spoil(h.Frame)
		for i := range h.Took {
			h.Took[i] = !h.Took[i]
		}
	}
	nodes := s.Nodes[:cap(s.Nodes)]
	for i, h := range nodes {
		nodes[i] = api.Holder{Has: !h.Has, Crashed: !h.Crashed, Off: !h.Off}
	}
}

// holdsApart holds the lists of all these buses, and these data, to share no memory.
func holdsApart(t *testing.T, what string, data []byte, l ...api.Lcan) {
	t.Helper()
	holders, marks, frames := map[*api.Holder]bool{}, map[*bool]bool{}, map[*byte]bool{}
	twice := meets(frames, data)
	for _, s := range l {
		twice = meets(holders, s.Nodes) || twice
		for _, h := range whole(s).Nodes {
			twice = meets(marks, h.Took) || meets(frames, h.Frame.Data) || twice
		}
	}
	if twice {
		t.Fatalf("%s: lists share memory", what)
	}
}

// meets adds the memory of a list, and reports whether some of it was met before.
func meets[T any](met map[*T]bool, l []T) bool {
	twice := false
	l = l[:cap(l)]
	for i := range l {
		twice = twice || met[&l[i]]
		met[&l[i]] = true
	}
	return twice
}

// story is a second telling of the chapter: what a bus is, by the events that it has had.
type story struct {
	nodes  int
	l      []api.May
	silent int
}

// last is the place of the last event of one of these kinds at a node, or -1.
func (s story) last(node int, whats ...uint8) int {
	for i := len(s.l) - 1; i >= 0; i-- {
		if s.l[i].Node == node && slices.Contains(whats, s.l[i].What) {
			return i
		}
	}
	return -1
}

func (s story) crashed(node int) bool { return s.last(node, api.MayCrash) >= 0 }

func (s story) off(node int) bool { return s.last(node, api.MayOff) > s.last(node, api.MayOn) }

// given is the place of the event by which a node has its frame, or -1.
func (s story) given(node int) int {
	i := s.last(node, api.MayGive)
	if i < s.last(node, api.MayDrop, api.MaySent) {
		return -1
	}
	return i
}

// took reports whether a node took a frame that was given at that place.
func (s story) took(node, from, given int) bool {
	return slices.ContainsFunc(s.l[given:], func(m api.May) bool {
		return m.What == api.MayTake && m.Node == node && m.From == from
	})
}

// missing are the nodes that could have taken the frame of a node, and did not.
func (s story) missing(node int) []int {
	var l []int
	for i := range s.nodes {
		given := s.given(node)
		if given >= 0 && i != node && !s.crashed(i) && !s.off(i) && !s.took(i, node, given) {
			l = append(l, i)
		}
	}
	return l
}

// is reports whether that is the number of a node.
func (s story) is(node int) bool { return node >= 0 && node < s.nodes }

// possible reports whether an event may come next.
func (s story) possible(m api.May) bool {
	if !s.is(m.Node) {
		return false
	}
	has, crashed, off := s.given(m.Node) >= 0, s.crashed(m.Node), s.off(m.Node)
	switch m.What {
	case api.MayGive:
		return !crashed && !has && samples.Wire(m.Frame) != ""
	case api.MayDrop:
		return !crashed && has
	case api.MayCrash:
		return true
	case api.MayTake:
		return !crashed && !off && s.is(m.From) && m.From != m.Node && s.given(m.From) >= 0
	case api.MaySent:
		return !crashed && !off && has
	case api.MayOff:
		return !crashed && !off
	case api.MayOn:
		return !crashed && off
	}
	return false
}

// with is the story with one event more, which is possible.
func (s story) with(m api.May) story {
	if m.What == api.MaySent && len(s.missing(m.Node)) > 0 {
		s.silent++
	}
	s.l = append(slices.Clip(s.l), m)
	return s
}

// bus is what has become of the bus.
func (s story) bus() api.Lcan {
	b := api.Lcan{Silent: s.silent}
	for node := range s.nodes {
		h := api.Holder{Crashed: s.crashed(node), Off: s.off(node)}
		if given := s.given(node); given >= 0 {
			h.Has, h.Frame = true, s.l[given].Frame
			for i := range s.nodes {
				h.Took = append(h.Took, s.took(i, node, given))
			}
		}
		b.Nodes = append(b.Nodes, h)
	}
	return b
}

// goesOn holds a step of the bus of a story to the story, and returns what it is then.
func goesOn(t *testing.T, s story, m api.May) story {
	t.Helper()
	b := s.bus()
	if !s.possible(m) {
		becomes(t, b, m, nil)
		return s
	}
	s = s.with(m)
	want := s.bus()
	becomes(t, b, m, &want)
	return s
}

// all are all stories of so many nodes that lead to different buses, but for what was
// lost silently; the shortest ones.
func all(nodes int) []story {
	l := []story{{nodes: nodes}}
	met := map[string]bool{text(l[0].bus()): true}
	for i := 0; i < len(l); i++ {
		for _, m := range events(nodes) {
			if !l[i].possible(m) {
				continue
			}
			next := l[i].with(m)
			b := next.bus()
			b.Silent = 0
			if !met[text(b)] {
				met[text(b)] = true
				l = append(l, next)
			}
		}
	}
	return l
}

// events are all of the kinds that there are, and of some that are none, at all nodes, and
// at the numbers around them.
func events(nodes int) []api.May {
	var l []api.May
	for what := range api.MayLast + 2 {
		for node := -1; node <= nodes; node++ {
			if what != api.MayTake {
				l = append(l, may(what, node, -1))
				continue
			}
			for from := -1; from <= nodes; from++ {
				l = append(l, may(what, node, from))
			}
		}
	}
	return l
}

// chosen is an event, of a node, or sometimes of none, with the frame of the node.
func chosen(r *rand.Rand, nodes int) api.May {
	whats := []uint8{api.MayGive, api.MayGive, api.MayGive, api.MaySent, api.MaySent, api.MayDrop, api.MayOff, api.MayOn, api.MayOn}
	what := api.MayTake
	switch n := r.IntN(40); {
	case n < 16:
		what = whats[r.IntN(len(whats))]
	case n == 16 && r.IntN(20) == 0:
		what = api.MayCrash
	case n == 17 && r.IntN(20) == 0:
		what = uint8(r.IntN(256))
	}
	node, from := r.IntN(nodes), r.IntN(nodes)
	if r.IntN(50) == 0 {
		node = r.IntN(nodes+4) - 2
	}
	if r.IntN(50) == 0 {
		from = r.IntN(nodes+4) - 2
	}
	return may(what, node, from)
}
