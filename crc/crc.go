// Package crc is layer 1: see shared/doc/01-crc.md.
package crc

// polynomial is what the sum is xored with when a bit 1 leaves it.
const polynomial = 0xedb88320

// Sum is one that goes on: a method value of it takes bytes.
type Sum struct{ n uint32 } // with all bits turned, so that the zero Sum is that of no bytes

// Add: bytes more.
func (s *Sum) Add(text string) {
	n := ^s.n
	for _, b := range []byte(text) {
		n = eightSteps(n ^ uint32(b))
	}
	s.n = ^n
}

// eightSteps moves a byte's bits out of a sum.
func eightSteps(n uint32) uint32 {
	for range 8 {
		left := n & 1
		n >>= 1
		if left == 1 {
			n ^= polynomial
		}
	}
	return n
}

// Value: the sum of all.
func (s *Sum) Value() uint32 {
	return s.n
}

// Of: the sum of texts, one behind the other.
func Of(l ...string) uint32 {
	var s Sum
	add := s.Add
	for _, text := range l {
		add(text)
	}
	return s.Value()
}

// Bytes: a sum's four, the lowest first.
func Bytes(n uint32) string {
	return string([]byte{byte(n), byte(n >> 8), byte(n >> 16), byte(n >> 24)})
}
