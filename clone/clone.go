// Package clone copies what calls hand on into memory of its own, so that no result
// shares any with an argument.
package clone

import (
	"slices"

	"jackstay/api"
)

// Frame is f in memory of its own.
func Frame(f api.Frame) api.Frame {
	f.Data = slices.Clone(f.Data)
	return f
}

// Ctl is c in memory of its own.
func Ctl(c api.Ctl) api.Ctl {
	c.Give = Frame(c.Give)
	c.Wire = slices.Clone(c.Wire)
	c.Take.Bits = slices.Clone(c.Take.Bits)
	return c
}
