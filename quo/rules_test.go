package quo_test

import (
	"math"
	"slices"
	"testing"

	"fluxion/api"
	"fluxion/quo"
)

type call struct {
	name string
	do   func(a, b api.Nat) []api.Nat
}

func one(a api.Nat) []api.Nat { return []api.Nat{a} }

func calls() []call {
	list := []call{
		{"DivMod", func(a, b api.Nat) []api.Nat { q, r, _ := quo.DivMod(a, b); return []api.Nat{q, r} }},
		{"Gcd", func(a, b api.Nat) []api.Nat { return one(quo.Gcd(a, b)) }},
		{"Divides", func(a, b api.Nat) []api.Nat { quo.Divides(a, b); return nil }},
	}
	for _, d := range []uint32{0, 1, 2, half, top} {
		list = append(list, call{"Short", func(a, b api.Nat) []api.Nat { q, _, _ := quo.Short(a, d); return one(q) }})
	}
	for _, n := range []int{math.MinInt, -1, 0, 1, 2, 5} {
		list = append(list, call{"Pow", func(a, b api.Nat) []api.Nat { return one(quo.Pow(a, n)) }})
	}
	return list
}

// roomy returns a number with spare capacity behind it, so that an append to an argument shows.
func roomy(a api.Nat) api.Nat {
	r := make(api.Nat, len(a), len(a)+3)
	copy(r, a)
	for i := len(a); i < cap(r); i++ {
		whole(r)[i] = 0xABCDABCD
	}
	return r
}

func whole(a api.Nat) api.Nat { return a[:cap(a)] }

func TestArgumentsStay(t *testing.T) {
	list := samples(40)
	for _, c := range calls() {
		for _, x := range list {
			for _, y := range list {
				a, b := roomy(x), roomy(y)
				beforeA, beforeB := slices.Clone(whole(a)), slices.Clone(whole(b))
				c.do(a, b)
				same(t, c.name+" changes its first argument", whole(a), beforeA)
				same(t, c.name+" changes its second argument", whole(b), beforeB)
			}
		}
	}
}

// Each result is filled in turn: nothing else may change.
func TestResultsAreNewMemory(t *testing.T) {
	list := samples(40)
	for _, c := range calls() {
		for _, x := range list {
			for _, y := range list {
				a, b := roomy(x), roomy(y)
				all := append([]api.Nat{whole(a), whole(b)}, c.do(a, b)...)
				again := c.do(a, b)
				for i, r := range again {
					others := slices.Concat(all, again[:i], again[i+1:])
					checkFilled(t, c.name, r, others)
				}
			}
		}
	}
}

func checkFilled(t *testing.T, name string, r api.Nat, others []api.Nat) {
	t.Helper()
	before := make([]api.Nat, len(others))
	for i, o := range others {
		before[i] = slices.Clone(o)
	}
	for i := range whole(r) {
		whole(r)[i] = ^whole(r)[i]
	}
	for i, o := range others {
		same(t, name+" shares memory", o, before[i])
	}
}

func TestOneArgumentTwice(t *testing.T) {
	for _, x := range samples(60) {
		a := roomy(x)
		trimmed := quo.Pow(x, 1)
		same(t, "Gcd of a number with itself", quo.Gcd(a, a), trimmed)
		if !quo.Divides(a, a) {
			t.Errorf("Divides %x itself", x)
		}
		if q, r, e := quo.DivMod(a, a); len(trimmed) > 0 && (e != api.OK || !slices.Equal(q, api.Nat{1}) || len(r) != 0) {
			t.Errorf("DivMod %x by itself: %x %x, error %d", x, q, r, e)
		}
	}
}

// P0.7

func TestAllCallsEnd(t *testing.T) {
	odd := []api.Nat{nil, {}, {0}, make(api.Nat, 1000), {1}, append(api.Nat{1}, make(api.Nat, 1000)...), {top, top}}
	for _, a := range odd {
		for _, b := range odd {
			for _, c := range calls() {
				c.do(a, b)
			}
		}
		for _, n := range []int{math.MinInt, math.MinInt + 1, math.MaxInt - 1, math.MaxInt} {
			quo.Pow(a, n)
		}
	}
}

// Beyond 2^31 - 1 bytes nothing is promised but an end without a panic.
func TestPowTooLongEnds(t *testing.T) {
	for _, a := range []api.Nat{{2}, {3}, {top}, {0, 0, 1, 0}, {1, 2, 3, 4}} {
		for _, n := range []int{1 << 40, math.MaxInt - 1, math.MaxInt} {
			quo.Pow(a, n)
		}
	}
}

func TestPowOfManyBits(t *testing.T) {
	n := 50000
	want := make(api.Nat, n/32+1)
	want[n/32] = 1 << (n % 32)
	same(t, "2 to a great power", quo.Pow(api.Nat{2}, n), want)
}

func TestManyLimbs(t *testing.T) {
	a := make(api.Nat, 3000)
	for i := range a {
		a[i] = top - uint32(i%7)
	}
	b := a[1100:2300]
	q, r, e := quo.DivMod(a, b)
	if e != api.OK {
		t.Errorf("DivMod: error %d", e)
	}
	x, y := toBig(a), toBig(b)
	agree(t, "quotient", q, x.Div(x, y))
	x = toBig(a)
	agree(t, "remainder", r, x.Mod(x, y))
}
