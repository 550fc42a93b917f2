package digits

import (
	"iter"

	"fluxion/api"
	"fluxion/nat"
	"fluxion/quo"
)

// A block is as many digits as fit into one limb, so that one division by a limb, or one
// product with a limb, does for all of them.
const (
	blockDigits = 9
	blockBase   = 1000000000
)

// backward yields the digits from the least significant one on, because that is the order in
// which divisions give them. Zeros in front of a block are digits, but for the last block.
func backward(a api.Nat) iter.Seq[byte] {
	return func(yield func(byte) bool) {
		for rest := a; ; {
			above, block, _ := quo.Short(rest, blockBase)
			for range blockDigits {
				if !yield('0' + byte(block%10)) {
					return
				}
				block /= 10
				if len(above) == 0 && block == 0 {
					return
				}
			}
			rest = above
		}
	}
}

// isNumber doesn't ask for the size: a number that is too long is a later error.
func isNumber(s string) bool {
	isDigit := func(i int) bool { return '0' <= s[i] && s[i] <= '9' }
	for i := range len(s) {
		if !isDigit(i) {
			return false
		}
	}
	return s == "0" || s != "" && s[0] != '0'
}

// value is given a string that isNumber accepts. It stops at the first block that makes the number
// too long: no later one makes it shorter, and the rest of the string may be very long.
func value(s string) (api.Nat, api.Errno) {
	var a api.Nat
	for len(s) > 0 {
		n := min(len(s), blockDigits)
		a = appendBlock(a, s[:n])
		if len(a) > api.MaxLimbs {
			return nil, api.ErrLimit
		}
		s = s[n:]
	}
	return a, api.OK
}

// appendBlock scales by the digits that the block has, because the last one may be short.
func appendBlock(a api.Nat, text string) api.Nat {
	scale, block := uint64(1), uint64(0)
	for i := range len(text) {
		scale *= 10
		block = block*10 + uint64(text[i]-'0')
	}
	return nat.Add(nat.Mul(a, nat.Of(scale)), nat.Of(block))
}

func isOne(a api.Nat) bool {
	return nat.Cmp(a, nat.Of(1)) == 0
}
