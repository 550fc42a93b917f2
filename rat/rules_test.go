package rat_test

import (
	"math"
	"math/big"
	"slices"
	"testing"

	"fluxion/api"
	"fluxion/rat"
)

type call struct {
	name string
	do   func(x, y api.Rat) api.Rat
}

// none stands for the result of a call that returns no number.
func none() api.Rat { return api.Rat{} }

func calls() []call {
	list := []call{
		{"May", func(x, y api.Rat) api.Rat { rat.May(x); return none() }},
		{"Norm", func(x, y api.Rat) api.Rat { return rat.Norm(x) }},
		{"Make", func(x, y api.Rat) api.Rat { r, _ := rat.Make(x.Neg, x.Num, x.Den); return r }},
		{"Make of two numerators", func(x, y api.Rat) api.Rat { r, _ := rat.Make(x.Neg, x.Num, y.Num); return r }},
		{"Int", func(x, y api.Rat) api.Rat { return rat.Int(7<<32 + 5) }},
		{"Frac", func(x, y api.Rat) api.Rat { r, _ := rat.Frac(7<<32+5, 11); return r }},
		{"Add", rat.Add},
		{"Sub", rat.Sub},
		{"Mul", rat.Mul},
		{"Neg", func(x, y api.Rat) api.Rat { return rat.Neg(x) }},
		{"Div", func(x, y api.Rat) api.Rat { r, _ := rat.Div(x, y); return r }},
		{"Cmp", func(x, y api.Rat) api.Rat { rat.Cmp(x, y); return none() }},
		{"Sign", func(x, y api.Rat) api.Rat { rat.Sign(x); return none() }},
		{"Bits", func(x, y api.Rat) api.Rat { rat.Bits(x); return none() }},
		{"Same", func(x, y api.Rat) api.Rat { rat.Same(x, y); return none() }},
	}
	for _, n := range []int{math.MinInt, -1, 0, 1, 2, 3} {
		list = append(list, call{"Pow", func(x, y api.Rat) api.Rat { return rat.Pow(x, n) }})
	}
	return list
}

// roomy returns limbs with spare capacity behind them, so that an append to an argument shows.
func roomy(a api.Nat) api.Nat {
	r := make(api.Nat, len(a), len(a)+3)
	copy(r, a)
	for i := len(a); i < cap(r); i++ {
		whole(r)[i] = 0xABCDABCD
	}
	return r
}

func whole(a api.Nat) api.Nat { return a[:cap(a)] }

func roomyRat(x api.Rat) api.Rat {
	return api.Rat{Neg: x.Neg, Num: roomy(x.Num), Den: roomy(x.Den)}
}

// memory lists all limbs of numbers, with those behind their ends.
func memory(xs ...api.Rat) []api.Nat {
	var list []api.Nat
	for _, x := range xs {
		list = append(list, whole(x.Num), whole(x.Den))
	}
	return list
}

func copies(list []api.Nat) []api.Nat {
	r := make([]api.Nat, len(list))
	for i, a := range list {
		r[i] = slices.Clone(a)
	}
	return r
}

func TestArgumentsStay(t *testing.T) {
	list := samples(60)
	for _, c := range calls() {
		for _, x := range list {
			for _, y := range list {
				a, b := roomyRat(x), roomyRat(y)
				before := copies(memory(a, b))
				c.do(a, b)
				checkStays(t, c.name+" changes an argument", memory(a, b), before)
			}
		}
	}
}

func checkStays(t *testing.T, what string, now, before []api.Nat) {
	t.Helper()
	for i := range now {
		if !slices.Equal(now[i], before[i]) {
			t.Errorf("%s: %v, before %v", what, now[i], before[i])
		}
	}
}

// Each side of a result is filled in turn: nothing else may change.
func TestResultsAreNewMemory(t *testing.T) {
	list := samples(60)
	for _, c := range calls() {
		for _, x := range list {
			for _, y := range list {
				a, b := roomyRat(x), roomyRat(y)
				first, second := c.do(a, b), c.do(a, b)
				others := memory(a, b, first)
				checkFilled(t, c.name, second.Num, append(others, whole(second.Den)))
				checkFilled(t, c.name, second.Den, append(others, whole(second.Num)))
			}
		}
	}
}

func checkFilled(t *testing.T, name string, r api.Nat, others []api.Nat) {
	t.Helper()
	before := copies(others)
	for i := range whole(r) {
		whole(r)[i] = ^whole(r)[i]
	}
	checkStays(t, name+" shares memory", others, before)
}

func TestOneArgumentTwice(t *testing.T) {
	for _, s := range samples(100) {
		x := roomyRat(s)
		same(t, "Add", rat.Add(x, x), rat.Mul(s, rat.Int(2)))
		same(t, "Sub", rat.Sub(x, x), rat.Int(0))
		same(t, "Mul", rat.Mul(x, x), rat.Pow(s, 2))
		if rat.Cmp(x, x) != 0 || !rat.Same(x, x) {
			t.Errorf("Cmp, Same of %v with itself", s)
		}
		if q, e := rat.Div(x, x); e == api.OK {
			same(t, "Div", q, rat.Int(1))
		}
		shared := api.Rat{Neg: s.Neg, Num: x.Num, Den: x.Num}
		if rat.Sign(shared) != 0 {
			same(t, "Norm of one slice on both sides", rat.Norm(rat.Mul(shared, shared)), rat.Int(1))
		}
	}
}

// P0.7

func TestAllCallsEnd(t *testing.T) {
	odd := append(zeros(),
		api.Rat{Num: make(api.Nat, 1000), Den: make(api.Nat, 1000)},
		api.Rat{Num: append(api.Nat{1}, make(api.Nat, 1000)...), Den: append(api.Nat{2}, make(api.Nat, 1000)...), Neg: true},
		api.Rat{Num: api.Nat{top, top}, Den: api.Nat{top}},
	)
	for _, x := range odd {
		for _, y := range odd {
			for _, c := range calls() {
				if r := c.do(x, y); !alike(r, none()) && rat.May(r) != api.OK {
					t.Errorf("%s %v %v: %v isn't valid", c.name, x, y, r)
				}
			}
		}
	}
}

// Beyond 2^31 - 1 bytes nothing is promised but an end without a panic.
func TestPowTooLongEnds(t *testing.T) {
	for _, text := range []string{"2", "-2", "1/2", "-2/3", "-18446744073709551616/3"} {
		for _, n := range []int{1 << 40, math.MaxInt - 1, math.MaxInt} {
			if r := rat.Pow(num(text), n); rat.May(r) != api.OK {
				t.Errorf("Pow %s %d: %v isn't valid", text, n, r)
			}
		}
	}
}

func TestManyLimbs(t *testing.T) {
	a, b := make(api.Nat, 300), make(api.Nat, 280)
	for i := range a {
		a[i] = top - uint32(i%7)
	}
	for i := range b {
		b[i] = uint32(i%11) * 6
	}
	x, y := api.Rat{Num: a, Den: b}, api.Rat{Num: b[:100], Den: a[7:200], Neg: true}
	p, q := toBig(x), toBig(y)
	agree(t, "Norm", rat.Norm(x), p)
	agree(t, "Add", rat.Add(x, y), new(big.Rat).Add(p, q))
	agree(t, "Sub", rat.Sub(x, y), new(big.Rat).Sub(p, q))
	agree(t, "Mul", rat.Mul(x, y), new(big.Rat).Mul(p, q))
	agree(t, "Pow", rat.Pow(y, 2), new(big.Rat).Mul(q, q))
	if d, e := rat.Div(x, y); e != api.OK {
		t.Errorf("Div: error %d", e)
	} else {
		agree(t, "Div", d, new(big.Rat).Quo(p, q))
	}
	if rat.Cmp(x, y) != 1 || rat.Sign(y) != -1 || rat.Same(x, y) {
		t.Error("Cmp, Sign, Same")
	}
}
