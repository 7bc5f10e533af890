// Package rows writes rows of bits as texts, so that tests are easy to read: r is
// a recessive bit, d a dominant one. It is for tests alone.
package rows

import "strings"

// Of returns the bits that s says; what is no r is dominant.
func Of(s string) []bool {
	l := make([]bool, 0, len(s))
	for i := range len(s) {
		l = append(l, s[i] == 'r')
	}
	return l
}

// Text is the inverse of Of.
func Text(l []bool) string {
	var s strings.Builder
	for _, bit := range l {
		if bit {
			s.WriteByte('r')
		} else {
			s.WriteByte('d')
		}
	}
	return s.String()
}

// Turn inverts every bit of l.
func Turn(l []bool) {
	for i := range l {
		l[i] = !l[i]
	}
}
