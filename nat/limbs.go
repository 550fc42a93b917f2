package nat

import (
	"iter"

	"fluxion/api"
)

// limbs hides the zero limbs at the end, so that no caller has to count them.
func limbs(a api.Nat) iter.Seq2[int, uint32] {
	return func(yield func(int, uint32) bool) {
		for i, x := range cut(a) {
			if !yield(i, x) {
				return
			}
		}
	}
}

// carrier is given the first carry. The function that it returns must be called from the
// least significant limb upwards, because it keeps what does not fit for the next limb.
// A product of two limbs, a limb and a carry of 32 bits are together below 2^64.
func carrier(carry uint64) func(parts ...uint64) uint32 {
	return func(parts ...uint64) uint32 {
		for _, x := range parts {
			carry += x
		}
		low := uint32(carry)
		carry >>= limbBits
		return low
	}
}

// addRow adds b times x to r. The limb of r above those of b is still 0, so that it is set
// to the last carry, which ends there.
func addRow(r api.Nat, x uint32, b api.Nat) {
	next := carrier(0)
	for i, y := range limbs(b) {
		r[i] = next(uint64(x)*uint64(y), uint64(r[i]))
	}
	r[len(b)] = next()
}

// cut returns a part of its argument: what is to be returned must be cut from new memory.
func cut(a api.Nat) api.Nat {
	n := len(a)
	for n > 0 && a[n-1] == 0 {
		n--
	}
	return a[:n]
}

// at treats the limbs above the last one as the zeros that they stand for.
func at(a api.Nat, i int) uint32 {
	if i < len(a) {
		return a[i]
	}
	return 0
}

func pair(a api.Nat, i int) uint64 {
	return uint64(at(a, i+1))<<limbBits | uint64(at(a, i))
}

// split counts a negative n as 0.
func split(n int) (whole, rest int) {
	n = max(n, 0)
	return n / limbBits, n % limbBits
}
