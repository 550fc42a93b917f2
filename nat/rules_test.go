package nat_test

import (
	"math"
	"slices"
	"testing"

	"fluxion/api"
	"fluxion/nat"
)

type call struct {
	name string
	do   func(a, b api.Nat) api.Nat
}

func calls() []call {
	list := []call{
		{"Trim", func(a, b api.Nat) api.Nat { return nat.Trim(a) }},
		{"Add", nat.Add},
		{"Mul", nat.Mul},
		{"Sub", func(a, b api.Nat) api.Nat { d, _ := nat.Sub(a, b); return d }},
		{"Sub, turned round", func(a, b api.Nat) api.Nat { d, _ := nat.Sub(b, a); return d }},
		{"Cmp", func(a, b api.Nat) api.Nat { nat.Cmp(a, b); return nil }},
		{"Uint", func(a, b api.Nat) api.Nat { nat.Uint(a); return nil }},
		{"Bits", func(a, b api.Nat) api.Nat { nat.Bits(a); return nil }},
	}
	for _, n := range []int{math.MinInt, -1, 0, 1, 31, 32, 33, 64} {
		list = append(list,
			call{"Shl", func(a, b api.Nat) api.Nat { return nat.Shl(a, n) }},
			call{"Shr", func(a, b api.Nat) api.Nat { return nat.Shr(a, n) }},
			call{"Bit", func(a, b api.Nat) api.Nat { nat.Bit(a, n); return nil }})
	}
	return list
}

// roomy returns a number with spare capacity behind it, so that an append to an argument shows.
func roomy(a api.Nat) api.Nat {
	r := make(api.Nat, len(a), len(a)+3)
	copy(r, a)
	for i := len(a); i < cap(r); i++ {
		r[:cap(r)][i] = 0xABCDABCD
	}
	return r
}

func whole(a api.Nat) api.Nat { return a[:cap(a)] }

func TestArgumentsStay(t *testing.T) {
	for _, c := range calls() {
		for _, x := range samples(24) {
			for _, y := range samples(24) {
				a, b := roomy(x), roomy(y)
				beforeA, beforeB := slices.Clone(whole(a)), slices.Clone(whole(b))
				c.do(a, b)
				same(t, c.name+" changes its first argument", whole(a), beforeA)
				same(t, c.name+" changes its second argument", whole(b), beforeB)
			}
		}
	}
}

func TestResultsAreNewMemory(t *testing.T) {
	for _, c := range calls() {
		for _, x := range samples(24) {
			for _, y := range samples(24) {
				a, b := roomy(x), roomy(y)
				beforeA, beforeB := slices.Clone(whole(a)), slices.Clone(whole(b))
				first := c.do(a, b)
				want := slices.Clone(first)
				second := c.do(a, b)
				for i := range whole(second) {
					whole(second)[i] = 0x12345678
				}
				same(t, c.name+" shares memory with its first argument", whole(a), beforeA)
				same(t, c.name+" shares memory with its second argument", whole(b), beforeB)
				same(t, c.name+" shares memory with an earlier result", first, want)
			}
		}
	}
}

func TestOneArgumentTwice(t *testing.T) {
	for _, x := range samples(60) {
		a := roomy(x)
		same(t, "Add", nat.Add(a, a), nat.Shl(x, 1))
		same(t, "Mul", nat.Mul(a, a), nat.Mul(x, slices.Clone(x)))
		if d, e := nat.Sub(a, a); e != api.OK || len(d) != 0 {
			t.Errorf("Sub %x from itself: %x, error %d", x, d, e)
		}
		if nat.Cmp(a, a) != 0 {
			t.Errorf("Cmp %x with itself", x)
		}
	}
}

func TestOfIsNewMemory(t *testing.T) {
	first := nat.Of(7<<32 + 5)
	first[0], first[1] = 1, 1
	same(t, "Of", nat.Of(7<<32+5), api.Nat{5, 7})
}

// P0.7

func TestAllCallsEnd(t *testing.T) {
	odd := []api.Nat{nil, {}, {0}, make(api.Nat, 1000), {1}, append(api.Nat{1}, make(api.Nat, 1000)...)}
	for _, a := range odd {
		for _, b := range odd {
			for _, c := range calls() {
				c.do(a, b)
			}
		}
		for _, n := range []int{math.MinInt, math.MinInt + 1, math.MaxInt - 1, math.MaxInt} {
			nat.Bit(a, n)
			nat.Shr(a, n)
			nat.Shl(a, n)
		}
		same(t, "Shl of 0", nat.Shl(make(api.Nat, len(a)), math.MaxInt), nil)
	}
}
