package wire

import "fluxion/api"

// A byte of a number has 7 of its bits, and is at least more if another byte follows; the
// longest number has 64 bits, of which only one is left for the last byte.
const (
	bitsOfByte = 7
	more       = 1 << bitsOfByte
	longest    = 10
)

func varint(n uint64) []byte {
	b := make([]byte, 0, longest)
	for n >= more {
		b = append(b, byte(n%more)+more)
		n >>= bitsOfByte
	}
	return append(b, byte(n))
}

// zigzag turns all bits of a negative number, as -2 n - 1 is the complement of 2 n; so there is
// no number whose double doesn't fit.
func zigzag(n int64) uint64 {
	twice := uint64(n) << 1
	if n < 0 {
		return ^twice
	}
	return twice
}

// unzigzag has an error only to be of the kind that converted takes: every number is a signed one.
func unzigzag(n uint64) (int64, api.Errno) {
	half := int64(n >> 1)
	if n%2 == 1 {
		return ^half, api.OK
	}
	return half, api.OK
}
