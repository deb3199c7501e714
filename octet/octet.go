// Package octet is layer 1: numbers as bytes, and a reader that checks what it reads.
package octet

import "math/bits"

// The forms of numbers.
const (
	maxBytes = 8 // of a number of a fixed size
	maxVar   = 10
	group    = 7 // bits of a number in a byte of a varint
	more     = 1 << group
)

// Put appends the n lowest bytes of v, the lowest first.
func Put(out []byte, v uint64, n int) []byte {
	if !isSize(n) {
		return add(out)
	}
	low := make([]byte, 0, maxBytes)
	for i := range n {
		low = append(low, byte(v>>(8*i)))
	}
	return add(out, low...)
}

// Of is the number whose bytes are b, the lowest first.
func Of(b []byte) uint64 {
	if len(b) > maxBytes {
		return 0
	}
	v := uint64(0)
	for i, c := range b {
		v |= uint64(c) << (8 * i)
	}
	return v
}

// PutVar appends v as a varint.
func PutVar(out []byte, v uint64) []byte {
	low := make([]byte, 0, maxVar)
	for range groups(v) - 1 {
		low = append(low, byte(v%more)|more)
		v >>= group
	}
	return add(out, append(low, byte(v))...)
}

// Zig maps numbers to numbers without a sign, those close to 0 to small ones.
func Zig(n int64) uint64 {
	if n < 0 {
		return 2*uint64(-(n+1)) + 1 // -2 * n itself does not fit for the least n
	}
	return 2 * uint64(n)
}

// Zag is the inverse of Zig.
func Zag(v uint64) int64 {
	half := int64(v / 2)
	if v%2 == 1 {
		return -half - 1
	}
	return half
}

func isSize(n int) bool {
	return n >= 1 && n <= maxBytes
}

// groups is how many bytes the varint of v has: 0 has one, too.
func groups(v uint64) int {
	return (bits.Len64(v|1) + group - 1) / group
}

// add always copies: a result shares nothing with an argument, and leaves its spare capacity alone.
func add(out []byte, b ...byte) []byte {
	all := make([]byte, 0, len(out)+len(b))
	return append(append(all, out...), b...)
}
