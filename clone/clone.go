// Package clone copies what calls hand on into memory of its own, so that no result
// shares any with an argument.
package clone

import (
	"slices"

	"jackstay/api"
)

// Ctl is c in memory of its own.
func Ctl(c api.Ctl) api.Ctl {
	c.Give.Data = slices.Clone(c.Give.Data)
	c.Wire = slices.Clone(c.Wire)
	c.Take.Bits = slices.Clone(c.Take.Bits)
	return c
}
