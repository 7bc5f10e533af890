// Package rows writes rows of bits as texts, so that tests are easy to read: r is
// a recessive bit, d a dominant one. It lists all short ones, and short lists of other
// things, too. It is for tests alone.
package rows

import (
	"iter"
	"slices"
	"strings"

	"jackstay/bits"
)

// Of returns the bits that s says; what is no r is dominant.
func Of(s string) []bool {
	l := make([]bool, 0, len(s))
	for i := range len(s) {
		l = append(l, s[i] == 'r')
	}
	return l
}

// Text is the inverse of Of.
func Text(l []bool) string {
	var s strings.Builder
	for _, bit := range l {
		if bit {
			s.WriteByte('r')
		} else {
			s.WriteByte('d')
		}
	}
	return s.String()
}

// UpTo yields the texts of all rows of at most many bits, short ones first.
func UpTo(many int) iter.Seq[string] {
	return func(yield func(string) bool) {
		for long := range many + 1 {
			for n := range uint32(1) << long {
				if !yield(Text(bits.Of(n, long))) {
					return
				}
			}
		}
	}
}

// Lists yields all lists of at most many of these things, in all orders, each one as
// often as may be; short ones first.
func Lists[T any](of []T, many int) iter.Seq[[]T] {
	return func(yield func([]T) bool) {
		all := [][]T{nil}
		for len(all) > 0 {
			l := all[0]
			all = all[1:]
			if !yield(l) {
				return
			}
			if len(l) == many {
				continue
			}
			for _, x := range of {
				all = append(all, append(slices.Clip(l), x))
			}
		}
	}
}

// Turn inverts every bit of l.
func Turn(l []bool) {
	for i := range l {
		l[i] = !l[i]
	}
}

// Turned is s with one bit inverted.
func Turned(s string, place int) string {
	l := Of(s)
	l[place] = !l[place]
	return Text(l)
}
