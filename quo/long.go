package quo

import (
	"fluxion/api"
	"fluxion/nat"
)

const maxLimb = 1<<limbBits - 1

// count passes over zero limbs at the end.
func count(a api.Nat) int {
	return (nat.Bits(a) + limbBits - 1) / limbBits
}

// long divides by a number of at least two limbs. Both numbers are shifted until the highest
// bit of the last limb of the divisor is 1: only then is an estimate at most 2 too great.
func long(a, b api.Nat) (api.Nat, api.Nat) {
	shift := count(b)*limbBits - nat.Bits(b)
	b = nat.Shl(b, shift)
	// The first part of a, like all later ones, has one limb more than b and is less than b
	// times 2^32, so that its quotient has one limb.
	rest := append(nat.Shl(a, shift), 0)
	q := make(api.Nat, len(rest)-len(b))
	for i := len(q) - 1; i >= 0; i-- {
		q[i] = divide(rest[i:i+len(b)+1], b)
	}
	return nat.Trim(q), nat.Shr(rest, shift)
}

// divide returns the quotient of part by b, and leaves the remainder in part.
func divide(part, b api.Nat) uint32 {
	q := estimate(part, b)
	if takeAway(part, q, b) {
		giveBack(part, b)
		q--
	}
	return uint32(q)
}

// estimate returns the quotient, or 1 more: it divides by the last limb of b alone, and
// then corrects that by the limb before it.
func estimate(part, b api.Nat) uint64 {
	n := len(b)
	last, before := uint64(b[n-1]), uint64(b[n-2])
	high, low := uint64(part[n])<<limbBits|uint64(part[n-1]), uint64(part[n-2])
	q, r := high/last, high%last
correct:
	for r <= maxLimb {
		switch {
		case q > maxLimb, q*before > r<<limbBits|low:
			q--
			r += last
		default:
			break correct
		}
	}
	return q
}

// takeAway subtracts q times b from part. If it reports that part was less, it has taken one
// b too many, and part is off by its highest carry, which giveBack makes good.
func takeAway(part api.Nat, q uint64, b api.Nat) bool {
	owed := uint64(0)
	for i, y := range b {
		owed += q * uint64(y)
		low := uint32(owed)
		owed >>= limbBits
		if part[i] < low {
			owed++
		}
		part[i] -= low
	}
	last := len(b)
	isLess := uint64(part[last]) < owed
	part[last] -= uint32(owed)
	return isLess
}

func giveBack(part, b api.Nat) {
	carry := uint64(0)
	for i, y := range b {
		carry += uint64(part[i]) + uint64(y)
		part[i] = uint32(carry)
		carry >>= limbBits
	}
	part[len(b)] += uint32(carry)
}

// shortGcd spares the numbers of up to two limbs, which are most of them, the new memory of each step.
func shortGcd(x, y uint64) uint64 {
	for y > 0 {
		x, y = y, x%y
	}
	return x
}
