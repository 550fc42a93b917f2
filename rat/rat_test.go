package rat_test

import (
	"math"
	"math/big"
	"slices"
	"testing"

	"fluxion/api"
	"fluxion/rat"
)

const top = math.MaxUint32

// num returns the valid representation of a number written as a text.
func num(text string) api.Rat {
	b, ok := new(big.Rat).SetString(text)
	if !ok {
		panic(text)
	}
	return fromBig(b)
}

func alike(x, y api.Rat) bool {
	return x.Neg == y.Neg && slices.Equal(x.Num, y.Num) && slices.Equal(x.Den, y.Den)
}

func same(t *testing.T, call string, got, want api.Rat) {
	t.Helper()
	if !alike(got, want) {
		t.Errorf("%s: got %v, want %v", call, got, want)
	}
}

func long(a api.Nat) api.Nat { return append(slices.Clone(a), 0, 0, 0) }

func times(a api.Nat, n int64) api.Nat {
	b := toInt(a)
	return fromInt(b.Mul(b, big.NewInt(n)))
}

// forms returns a valid number and others that count as it.
func forms(x api.Rat) []api.Rat {
	list := []api.Rat{
		x,
		{Neg: x.Neg, Num: long(x.Num), Den: x.Den},
		{Neg: x.Neg, Num: x.Num, Den: long(x.Den)},
		{Neg: x.Neg, Num: times(x.Num, 6), Den: times(x.Den, 6)},
		{Neg: x.Neg, Num: long(times(x.Num, math.MaxInt64)), Den: long(times(x.Den, math.MaxInt64))},
	}
	if len(x.Num) > 0 {
		return list
	}
	return append(list, zeros()...)
}

func zeros() []api.Rat {
	return []api.Rat{
		{},
		{Neg: true},
		{Den: api.Nat{1}, Neg: true},
		{Den: api.Nat{2}},
		{Den: api.Nat{3, 4, 5, 0}, Num: api.Nat{0, 0}, Neg: true},
		{Num: api.Nat{0}, Den: api.Nat{1}},
		{Num: api.Nat{7}},
		{Num: api.Nat{7, 8, 9}, Neg: true},
		{Num: api.Nat{1}, Den: api.Nat{0, 0, 0}},
		{Num: api.Nat{0, 0}, Den: api.Nat{0}, Neg: true},
	}
}

// P3.1

func TestMayOfValid(t *testing.T) {
	for _, x := range []api.Rat{
		{Den: api.Nat{1}},
		{Num: api.Nat{}, Den: api.Nat{1}},
		{Num: api.Nat{1}, Den: api.Nat{1}},
		{Num: api.Nat{3}, Den: api.Nat{2}, Neg: true},
		{Num: api.Nat{1}, Den: api.Nat{top, top}},
		{Num: api.Nat{0, 1}, Den: api.Nat{1}, Neg: true},
		{Num: api.Nat{1, 1, 1}, Den: api.Nat{0, 0, 0, 1}},
		{Num: api.Nat{12}, Den: api.Nat{35}},
	} {
		if e := rat.May(x); e != api.OK {
			t.Errorf("May %v: error %d", x, e)
		}
		same(t, "Norm of a valid number", rat.Norm(x), x)
	}
}

func TestMayOfInvalid(t *testing.T) {
	for _, x := range append(zeros(), []api.Rat{
		{Num: api.Nat{2}, Den: api.Nat{4}},
		{Num: api.Nat{}, Den: api.Nat{5}},
		{Num: api.Nat{3}, Den: api.Nat{}},
		{Num: api.Nat{3}, Den: api.Nat{3}},
		{Num: api.Nat{1, 0}, Den: api.Nat{1}},
		{Num: api.Nat{1}, Den: api.Nat{1, 0}},
		{Num: api.Nat{9}, Den: api.Nat{6}, Neg: true},
		{Num: api.Nat{0, 0, 1}, Den: api.Nat{0, 1}},
		{Num: api.Nat{top, top}, Den: api.Nat{top, 0, top}},
	}...) {
		if e := rat.May(x); e != api.ErrRat {
			t.Errorf("May %v: error %d", x, e)
		}
		if n := rat.Norm(x); rat.May(n) != api.OK {
			t.Errorf("Norm %v: %v isn't valid", x, n)
		}
	}
}

func TestNorm(t *testing.T) {
	for _, text := range []string{"0", "1", "-1", "3/2", "-3/8", "18446744073709551616/3", "-5/340282366920938463463374607431768211456"} {
		for _, x := range forms(num(text)) {
			same(t, "Norm", rat.Norm(x), num(text))
		}
	}
}

func TestMake(t *testing.T) {
	for _, x := range []struct {
		neg      bool
		num, den api.Nat
		want     api.Rat
	}{
		{false, nil, api.Nat{1}, num("0")},
		{true, nil, api.Nat{4}, num("0")},
		{true, api.Nat{0, 0}, api.Nat{4, 0}, num("0")},
		{false, api.Nat{6}, api.Nat{4}, num("3/2")},
		{true, api.Nat{6, 0}, api.Nat{4, 0, 0}, num("-3/2")},
		{true, api.Nat{4}, api.Nat{2}, num("-2")},
		{false, api.Nat{0, 0, 2}, api.Nat{0, 0, 6}, num("1/3")},
		{true, api.Nat{0, 1}, api.Nat{top}, num("-4294967296/4294967295")},
	} {
		r, e := rat.Make(x.neg, x.num, x.den)
		if e != api.OK {
			t.Errorf("Make %t %v %v: error %d", x.neg, x.num, x.den, e)
		}
		same(t, "Make", r, x.want)
	}
}

func TestMakeByZero(t *testing.T) {
	for _, n := range []api.Nat{nil, {0}, {1}, {4, 5, 6, 0}} {
		for _, d := range []api.Nat{nil, {}, {0}, {0, 0, 0}} {
			for _, neg := range []bool{false, true} {
				r, e := rat.Make(neg, n, d)
				if e != api.ErrZero {
					t.Errorf("Make %v %v: error %d", n, d, e)
				}
				same(t, "Make by zero", r, api.Rat{})
			}
		}
	}
}

func TestInt(t *testing.T) {
	for _, x := range []struct {
		n    int64
		want api.Rat
	}{
		{0, api.Rat{Den: api.Nat{1}}},
		{1, api.Rat{Num: api.Nat{1}, Den: api.Nat{1}}},
		{-7, api.Rat{Num: api.Nat{7}, Den: api.Nat{1}, Neg: true}},
		{1 << 32, api.Rat{Num: api.Nat{0, 1}, Den: api.Nat{1}}},
		{math.MaxInt64, api.Rat{Num: api.Nat{top, top >> 1}, Den: api.Nat{1}}},
		{-math.MaxInt64, api.Rat{Num: api.Nat{top, top >> 1}, Den: api.Nat{1}, Neg: true}},
		{math.MinInt64, api.Rat{Num: api.Nat{0, 1 << 31}, Den: api.Nat{1}, Neg: true}},
	} {
		same(t, "Int", rat.Int(x.n), x.want)
	}
}

func TestFrac(t *testing.T) {
	for _, x := range []struct {
		p, q int64
		want string
	}{
		{0, 1, "0"},
		{0, -9, "0"},
		{0, math.MinInt64, "0"},
		{6, 4, "3/2"},
		{6, -4, "-3/2"},
		{-6, 4, "-3/2"},
		{-6, -4, "3/2"},
		{5, 1, "5"},
		{1, math.MaxInt64, "1/9223372036854775807"},
		{1, math.MinInt64, "-1/9223372036854775808"},
		{math.MinInt64, 1, "-9223372036854775808"},
		{math.MinInt64, -1, "9223372036854775808"},
		{math.MinInt64, math.MinInt64, "1"},
		{math.MaxInt64, math.MinInt64, "-9223372036854775807/9223372036854775808"},
		{math.MinInt64, 6, "-4611686018427387904/3"},
	} {
		r, e := rat.Frac(x.p, x.q)
		if e != api.OK {
			t.Errorf("Frac %d %d: error %d", x.p, x.q, e)
		}
		same(t, "Frac", r, num(x.want))
	}
	for _, p := range []int64{0, 1, -1, math.MaxInt64, math.MinInt64} {
		r, e := rat.Frac(p, 0)
		if e != api.ErrZero {
			t.Errorf("Frac %d 0: error %d", p, e)
		}
		same(t, "Frac by zero", r, api.Rat{})
	}
}

// P3.2

func TestTwoSides(t *testing.T) {
	for _, x := range []struct{ x, y, sum, difference, product, quotient string }{
		{"1/2", "1/3", "5/6", "1/6", "1/6", "3/2"},
		{"1/3", "1/6", "1/2", "1/6", "1/18", "2"},
		{"1/2", "-1/3", "1/6", "5/6", "-1/6", "-3/2"},
		{"-1/3", "1/2", "1/6", "-5/6", "-1/6", "-2/3"},
		{"-1/2", "-1/2", "-1", "0", "1/4", "1"},
		{"2/3", "-2/3", "0", "4/3", "-4/9", "-1"},
		{"0", "5/7", "5/7", "-5/7", "0", "0"},
		{"0", "-5/7", "-5/7", "5/7", "0", "0"},
		{"3", "4", "7", "-1", "12", "3/4"},
		{"-4", "3", "-1", "-7", "-12", "-4/3"},
		{"7/4", "4/7", "65/28", "33/28", "1", "49/16"},
		{"4294967295", "1/4294967296", "18446744069414584321/4294967296", "18446744069414584319/4294967296", "4294967295/4294967296", "18446744069414584320"},
	} {
		for _, a := range forms(num(x.x)) {
			for _, b := range forms(num(x.y)) {
				same(t, "Add", rat.Add(a, b), num(x.sum))
				same(t, "Sub", rat.Sub(a, b), num(x.difference))
				same(t, "Mul", rat.Mul(a, b), num(x.product))
				q, e := rat.Div(a, b)
				if e != api.OK {
					t.Errorf("Div %v %v: error %d", a, b, e)
				}
				same(t, "Div", q, num(x.quotient))
			}
		}
	}
}

func TestWithZero(t *testing.T) {
	for _, text := range []string{"0", "1", "-1", "22/7", "-5/18446744073709551616"} {
		for _, x := range forms(num(text)) {
			for _, zero := range forms(num("0")) {
				same(t, "Add of 0", rat.Add(x, zero), num(text))
				same(t, "Add to 0", rat.Add(zero, x), num(text))
				same(t, "Sub of 0", rat.Sub(x, zero), num(text))
				same(t, "Sub from 0", rat.Sub(zero, x), rat.Neg(x))
				same(t, "Mul by 0", rat.Mul(x, zero), num("0"))
				same(t, "Mul of 0", rat.Mul(zero, x), num("0"))
				q, e := rat.Div(x, zero)
				if e != api.ErrZero {
					t.Errorf("Div %v %v: error %d", x, zero, e)
				}
				same(t, "Div by 0", q, api.Rat{})
			}
		}
	}
}

func TestNeg(t *testing.T) {
	for _, x := range []struct{ x, want string }{
		{"0", "0"},
		{"1", "-1"},
		{"-1", "1"},
		{"3/8", "-3/8"},
		{"-340282366920938463463374607431768211456/3", "340282366920938463463374607431768211456/3"},
	} {
		for _, a := range forms(num(x.x)) {
			same(t, "Neg", rat.Neg(a), num(x.want))
		}
	}
}

func TestPow(t *testing.T) {
	for _, x := range []struct {
		x    string
		n    int
		want string
	}{
		{"0", 0, "1"},
		{"0", -1, "1"},
		{"0", math.MinInt, "1"},
		{"0", 1, "0"},
		{"0", 4, "0"},
		{"0", math.MaxInt, "0"},
		{"1", math.MaxInt, "1"},
		{"-1", math.MaxInt, "-1"},
		{"-1", math.MaxInt - 1, "1"},
		{"-1", math.MinInt + 1, "1"},
		{"-1/3", 0, "1"},
		{"-1/3", -5, "1"},
		{"-1/3", 1, "-1/3"},
		{"-1/3", 2, "1/9"},
		{"-1/3", 3, "-1/27"},
		{"2/3", 10, "1024/59049"},
		{"10", 20, "100000000000000000000"},
		{"-1/2", 33, "-1/8589934592"},
		{"4294967295/4294967296", 2, "18446744065119617025/18446744073709551616"},
	} {
		for _, a := range forms(num(x.x)) {
			same(t, "Pow", rat.Pow(a, x.n), num(x.want))
		}
	}
}

// P3.3

func TestCmpSignSame(t *testing.T) {
	rising := []string{
		"-18446744073709551616", "-3/2", "-1", "-1/2", "-1/3", "-1/18446744073709551616", "0",
		"1/18446744073709551616", "1/4294967296", "1/3", "1/2", "2/3", "1", "3/2", "2",
		"4294967296/3", "18446744073709551615/2", "18446744073709551616",
	}
	zero := slices.Index(rising, "0")
	for i, a := range rising {
		for j, b := range rising {
			for _, x := range forms(num(a)) {
				if s := rat.Sign(x); s != order(i, zero) {
					t.Errorf("Sign %v: %d", x, s)
				}
				for _, y := range forms(num(b)) {
					if c := rat.Cmp(x, y); c != order(i, j) {
						t.Errorf("Cmp %v %v: %d", x, y, c)
					}
					if s := rat.Same(x, y); s != (i == j) {
						t.Errorf("Same %v %v: %t", x, y, s)
					}
				}
			}
		}
	}
}

func order(i, j int) int {
	switch {
	case i < j:
		return -1
	case i > j:
		return 1
	}
	return 0
}

func TestBits(t *testing.T) {
	for _, x := range []struct {
		x    string
		want int
	}{
		{"0", 1},
		{"1", 1},
		{"-1", 1},
		{"2", 2},
		{"1/2", 2},
		{"3/8", 4},
		{"-8/3", 4},
		{"7/4", 3},
		{"4294967296", 33},
		{"-1/4294967296", 33},
		{"18446744073709551616/3", 65},
		{"4294967297/18446744073709551616", 65},
	} {
		for _, a := range forms(num(x.x)) {
			if n := rat.Bits(a); n != x.want {
				t.Errorf("Bits %v: %d, want %d", a, n, x.want)
			}
		}
	}
}

func TestExamples(t *testing.T) {
	if sum := rat.Add(num("1/3"), num("1/6")); !alike(sum, api.Rat{Num: api.Nat{1}, Den: api.Nat{2}}) {
		t.Errorf("1/3 plus 1/6: %v", sum)
	}
	if r, e := rat.Frac(6, -4); e != api.OK || !alike(r, api.Rat{Neg: true, Num: api.Nat{3}, Den: api.Nat{2}}) {
		t.Errorf("Frac of 6, -4: %v, error %d", r, e)
	}
	if n := rat.Bits(api.Rat{Num: api.Nat{3}, Den: api.Nat{8}}); n != 4 {
		t.Errorf("Bits of 3/8: %d", n)
	}
}
