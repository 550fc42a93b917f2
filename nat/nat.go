// Package nat is layer 1, arithmetic on natural numbers of any size: see shared/doc/01-nat.md.
package nat

import (
	"cmp"
	"math/bits"
	"slices"

	"fluxion/api"
)

const limbBits = 32

// More limbs than these are beyond the 2^31 - 1 bytes for which the document promises a
// result; to ask for their memory could panic, which no call may do.
const maxLimbs = (1<<31 - 1) / (limbBits / 8)

func Of(n uint64) api.Nat {
	return cut(api.Nat{uint32(n), uint32(n >> limbBits)})
}

func Uint(a api.Nat) (uint64, bool) {
	if Bits(a) > 2*limbBits {
		return 0, false
	}
	return pair(a, 0), true
}

func Trim(a api.Nat) api.Nat {
	r := make(api.Nat, 0, len(cut(a)))
	for _, x := range limbs(a) {
		r = append(r, x)
	}
	return r
}

func Cmp(a, b api.Nat) int {
	a, b = cut(a), cut(b)
	if len(a) != len(b) {
		return cmp.Compare(len(a), len(b))
	}
	for i, x := range slices.Backward(a) {
		if x != b[i] {
			return cmp.Compare(x, b[i])
		}
	}
	return 0
}

func Add(a, b api.Nat) api.Nat {
	n := max(len(cut(a)), len(cut(b)))
	r := make(api.Nat, n, n+1)
	next := carrier(0)
	for i := range r {
		r[i] = next(uint64(at(a, i)), uint64(at(b, i)))
	}
	return cut(append(r, next()))
}

func Sub(a, b api.Nat) (api.Nat, api.Errno) {
	if Cmp(a, b) < 0 {
		return nil, api.ErrBelow
	}
	r := make(api.Nat, len(cut(a)))
	// Adding the complement and 1 subtracts, so a borrow needs no closure of its own.
	next := carrier(1)
	for i, x := range limbs(a) {
		r[i] = next(uint64(x), uint64(^at(b, i)))
	}
	return cut(r), api.OK
}

func Mul(a, b api.Nat) api.Nat {
	// Cut once, so that the zero limbs at the end are not looked for in every row.
	a, b = cut(a), cut(b)
	r := make(api.Nat, len(a)+len(b))
	for i, x := range limbs(a) {
		addRow(r[i:], x, b)
	}
	return cut(r)
}

func Bits(a api.Nat) int {
	a = cut(a)
	if len(a) == 0 {
		return 0
	}
	return (len(a)-1)*limbBits + bits.Len32(a[len(a)-1])
}

func Bit(a api.Nat, i int) bool {
	if i < 0 {
		return false
	}
	return at(a, i/limbBits)>>(i%limbBits)&1 == 1
}

func Shl(a api.Nat, n int) api.Nat {
	whole, rest := split(n)
	a = cut(a)
	if len(a) == 0 || whole > maxLimbs-len(a) {
		return nil
	}
	r := make(api.Nat, whole, whole+len(a)+1)
	next := carrier(0)
	for _, x := range limbs(a) {
		r = append(r, next(uint64(x)<<rest))
	}
	return cut(append(r, next()))
}

func Shr(a api.Nat, n int) api.Nat {
	whole, rest := split(n)
	a = cut(a)
	if whole >= len(a) {
		return nil
	}
	r := make(api.Nat, len(a)-whole)
	for i := range r {
		r[i] = uint32(pair(a, whole+i) >> rest)
	}
	return cut(r)
}
