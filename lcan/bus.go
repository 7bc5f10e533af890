package lcan

import (
	"jackstay/api"
	"jackstay/clone"
	"jackstay/frame"
)

// bus is a bus that events change.
type bus struct{ api.Lcan }

// events are what becomes of the bus, by the kinds of events. Each of them is told an
// event of a node that there is, and reports whether that is possible; if not, it changes
// nothing.
func (b *bus) events() map[uint8]func(api.May) bool {
	return map[uint8]func(api.May) bool{
		api.MayGive:  b.give,
		api.MayDrop:  b.drop,
		api.MayCrash: b.crash,
		api.MayTake:  b.take,
		api.MaySent:  b.sent,
		api.MayOff:   b.off,
		api.MayOn:    b.on,
	}
}

// give gives a node a frame.
func (b *bus) give(m api.May) bool {
	h := &b.Nodes[m.Node]
	if h.Crashed || h.Has || !frame.Right(m.Frame) {
		return false
	}
	h.Has, h.Frame, h.Took = true, clone.Frame(m.Frame), make([]bool, len(b.Nodes))
	return true
}

// drop takes the frame of a node back.
func (b *bus) drop(m api.May) bool {
	h := b.Nodes[m.Node]
	if h.Crashed || !h.Has {
		return false
	}
	b.free(m.Node)
	return true
}

// crash is the end of a node. Its frame stays, as others may still take it.
func (b *bus) crash(m api.May) bool {
	b.Nodes[m.Node].Crashed = true
	return true
}

// take marks that a node took the frame of another one.
func (b *bus) take(m api.May) bool {
	if !b.up(m.Node) || !b.has(m.From) || m.From == m.Node || !b.Nodes[m.From].Has {
		return false
	}
	b.Nodes[m.From].Took[m.Node] = true
	return true
}

// sent ends the frame of a node, and counts it if somebody did not take it who could.
func (b *bus) sent(m api.May) bool {
	if !b.up(m.Node) || !b.Nodes[m.Node].Has {
		return false
	}
	if len(b.missing(m.Node)) > 0 {
		b.Silent++
	}
	b.free(m.Node)
	return true
}

// off takes a node off the bus.
func (b *bus) off(m api.May) bool {
	if !b.up(m.Node) {
		return false
	}
	b.Nodes[m.Node].Off = true
	return true
}

// on brings a node back to the bus.
func (b *bus) on(m api.May) bool {
	h := &b.Nodes[m.Node]
	if h.Crashed || !h.Off {
		return false
	}
	h.Off = false
	return true
}

// has reports whether there is a node with that number.
func (b *bus) has(node int) bool { return 0 <= node && node < len(b.Nodes) }

// up reports whether a node has not crashed, and is not off.
func (b *bus) up(node int) bool {
	h := b.Nodes[node]
	return !h.Crashed && !h.Off
}

// free takes the frame of a node away, and all marks of it.
func (b *bus) free(node int) {
	h := &b.Nodes[node]
	h.Has, h.Frame, h.Took = false, api.Frame{}, nil
}

// missing are the other nodes that are up, and did not take the frame of a node. Where
// there is no frame there are no marks, and so nobody is missing.
func (b *bus) missing(node int) []int {
	if !b.has(node) {
		return nil
	}
	var l []int
	for i, took := range b.Nodes[node].Took {
		if i != node && b.up(i) && !took {
			l = append(l, i)
		}
	}
	return l
}
