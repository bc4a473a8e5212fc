// Package bits is layer 1: see shared/doc/01-bits.md.
package bits

import mathbits "math/bits"

// wide is how many bytes the widest number has.
const wide = 8

// Put is a number's lowest bytes, the highest first.
func Put(n uint64, size int) string {
	if size < 1 || size > wide {
		return ""
	}
	b := make([]byte, size)
	for i := range size {
		b[size-1-i] = byte(n >> (8 * i))
	}
	return string(b)
}

// Get is the number of bytes.
func Get(s string) uint64 {
	var n uint64
	for i := range min(len(s), wide) {
		n = n<<8 | uint64(s[i])
	}
	return n
}

// Left is a number whose bits are turned to the left.
func Left(x uint32, k int) uint32 { return mathbits.RotateLeft32(x, k) }

// Right is a number whose bits are turned to the right.
func Right(x uint32, k int) uint32 {
	// The least k is its own negative, but turns by a multiple of 32: it is the same both ways.
	return mathbits.RotateLeft32(x, -k)
}

// Ones is how many bits are 1.
func Ones(n int) int {
	if n < 0 {
		return 0
	}
	return mathbits.OnesCount64(uint64(n))
}

// Log is the place of the highest bit that is 1; below 0: there is none.
func Log(n int) int {
	if n < 1 {
		return -1
	}
	return mathbits.Len64(uint64(n)) - 1
}

// Bit is a bit of bytes.
func Bit(s string, i int) int {
	if i < 0 || i/8 >= len(s) {
		return 0
	}
	return int(s[i/8]>>(7-i%8)) & 1
}
