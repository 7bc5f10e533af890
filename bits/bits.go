// Package bits is layer 1: it converts between bits, numbers and bytes, and is
// the bus, a wired AND. A bit is true if it is recessive (1), and false if it is
// dominant (0).
package bits

const (
	perByte = 8  // bits of a byte
	mostOf  = 64 // bits that Of returns at most
)

// Of returns the lowest many bits of n, the highest one first: none if many is
// below 1, and 64 if it is above that.
func Of(n uint32, many int) []bool {
	l := make([]bool, min(max(many, 0), mostOf))
	fill(l, n)
	return l
}

// Number returns the number whose bits are the last 32 of l, or all of them if
// there are fewer.
func Number(l []bool) uint32 {
	n := uint32(0)
	// Earlier bits than the last 32 are shifted out at the top.
	for _, bit := range l {
		n <<= 1
		if bit {
			n |= 1
		}
	}
	return n
}

// OfBytes returns the bits of all bytes, each with its highest bit first.
func OfBytes(b []byte) []bool {
	l := make([]bool, perByte*len(b))
	for i, x := range b {
		fill(l[i*perByte:(i+1)*perByte], uint32(x))
	}
	return l
}

// Bytes returns the bytes of l; bits that are left over at its end are ignored.
func Bytes(l []bool) []byte {
	b := make([]byte, len(l)/perByte)
	for i := range b {
		b[i] = byte(Number(l[i*perByte : (i+1)*perByte]))
	}
	return b
}

// Bus returns dominant (false) as soon as one node drives dominant, and
// recessive (true) otherwise, also if nothing is driven.
func Bus(drives []bool) bool {
	for node := range len(drives) {
		if !drives[node] {
			return false
		}
	}
	return true
}

// fill sets l to the lowest bits of n, the highest one first.
func fill(l []bool, n uint32) {
	last := len(l) - 1
	// A shift by more than n is wide leaves 0: those are the leading zeros.
	for i := range l {
		l[i] = n>>(last-i)&1 == 1
	}
}
