package rat

import (
	"fluxion/api"
	"fluxion/nat"
)

// signed is a whole number. Over one denominator, rational numbers are added, subtracted and
// compared as their numerators are.
type signed struct {
	neg  bool
	size api.Nat
}

func (a signed) plus(b signed) signed {
	if a.neg == b.neg {
		return signed{a.neg, nat.Add(a.size, b.size)}
	}
	if nat.Cmp(a.size, b.size) < 0 {
		a, b = b, a
	}
	d, _ := nat.Sub(a.size, b.size)
	return signed{a.neg, d}
}

func (a signed) minus(b signed) signed {
	return a.plus(signed{!b.neg, b.size})
}

func (a signed) sign() int {
	switch {
	case nat.Bits(a.size) == 0:
		return 0
	case a.neg:
		return -1
	}
	return 1
}

// plain returns a number that counts as 0 as 0, and any other as it is: it takes no copy, and
// leaves common factors to the norm of the result.
func plain(x api.Rat) api.Rat {
	if nat.Bits(x.Num) == 0 || nat.Bits(x.Den) == 0 {
		return Int(0)
	}
	return x
}

func onBoth(x api.Rat, do func(api.Nat) api.Nat) api.Rat {
	return api.Rat{Neg: x.Neg, Num: do(x.Num), Den: do(x.Den)}
}

// over returns the numerator of x over the product of the denominators of x and y.
func over(x, y api.Rat) signed {
	return signed{x.Neg, product(x.Num, y.Den)}
}

// joined is given what is to be done to the numerator of x with that of y.
func joined(x, y api.Rat, with func(signed) signed) api.Rat {
	r := with(over(y, x))
	return Norm(api.Rat{Neg: r.neg, Num: r.size, Den: product(x.Den, y.Den)})
}

func product(factors ...api.Nat) api.Nat {
	r := nat.Of(1)
	for _, x := range factors {
		r = nat.Mul(r, x)
	}
	return r
}

// size leaves the sign out. The least number has no opposite of its own type, but wraps round
// to its own bits, which are the right ones without a sign.
func size(n int64) api.Nat {
	if n < 0 {
		n = -n
	}
	return nat.Of(uint64(n))
}
