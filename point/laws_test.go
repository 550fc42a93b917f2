package point_test

import (
	"fmt"
	"math/big"
	"math/rand/v2"
	"slices"
	"testing"

	"fluxion/api"
	"fluxion/point"
	"fluxion/rat"
	"fluxion/shape"
	"fluxion/tensor"
)

func toInt(a api.Nat) *big.Int {
	b := new(big.Int)
	for _, x := range slices.Backward(a) {
		b.Lsh(b, 32).Or(b, big.NewInt(int64(x)))
	}
	return b
}

// toBig reads a number as what the document says it counts as.
func toBig(x api.Rat) *big.Rat {
	n, d := toInt(x.Num), toInt(x.Den)
	if d.Sign() == 0 {
		return new(big.Rat)
	}
	if x.Neg {
		n.Neg(n)
	}
	return new(big.Rat).SetFrac(n, d)
}

// random is the same in every run.
func random() *rand.Rand { return rand.New(rand.NewPCG(8, 8)) }

// anyRat returns a number that need not be valid; many are small or count as 0.
func anyRat(r *rand.Rand) api.Rat {
	side := func() api.Nat {
		if r.IntN(2) == 0 {
			return api.Nat{r.Uint32N(12)}
		}
		a := make(api.Nat, r.IntN(4))
		for i := range a {
			a[i] = r.Uint32() >> (8 * r.IntN(5))
		}
		return a
	}
	return api.Rat{Neg: r.IntN(2) == 0, Num: side(), Den: side()}
}

// anyTensor returns a valid tensor.
func anyTensor(r *rand.Rand, s api.Shape) api.Tensor {
	x := api.Tensor{Shape: s}
	for range shape.Count(s) {
		x.Elems = append(x.Elems, fromBig(toBig(anyRat(r))))
	}
	return x
}

// anyDivisor returns a valid tensor without noughts.
func anyDivisor(r *rand.Rand, s api.Shape) api.Tensor {
	x := anyTensor(r, s)
	for i, a := range x.Elems {
		if rat.Sign(a) == 0 {
			x.Elems[i] = num("-7/5")
		}
	}
	return x
}

func full(s api.Shape, text string) api.Tensor {
	return api.Tensor{Shape: s, Elems: slices.Repeat(nums(text), shape.Count(s))}
}

// eachShape gives tensors of all shapes that are small enough for many calls.
func eachShape(do func(r *rand.Rand, s api.Shape)) {
	r := random()
	for _, s := range []api.Shape{nil, {1}, {2}, {5}, {2, 3}, {1, 4}, {3, 2, 2}, {2, 1, 3, 2}, {31}} {
		for range 20 {
			do(r, s)
		}
	}
}

// good returns the result of a call that has no error, if it is valid.
func good(t *testing.T) func(x api.Tensor, e api.Errno) api.Tensor {
	return func(x api.Tensor, e api.Errno) api.Tensor {
		t.Helper()
		checkError(t, "a call", e, api.OK)
		checkError(t, "May of a result", tensor.May(x), api.OK)
		return x
	}
}

// Elements are held against math/big, one by one.
func TestTwoAgree(t *testing.T) {
	eachShape(func(r *rand.Rand, s api.Shape) {
		x, y := anyTensor(r, s), anyTensor(r, s)
		for i, call := range callsOfTwo() {
			hasZero := slices.ContainsFunc(y.Elems, func(b api.Rat) bool { return toBig(b).Sign() == 0 })
			if call.name == "Div" && hasZero {
				got, e := call.do(x, y)
				checkNone(t, call.name, got, e, api.ErrZero)
				y = anyDivisor(r, s)
			}
			want := api.Tensor{Shape: s}
			for k, a := range x.Elems {
				want.Elems = append(want.Elems, fromBig(bigOfTwo()[i](toBig(a), toBig(y.Elems[k]))))
			}
			got, e := call.do(x, y)
			checkCall(t, fmt.Sprint(call.name, x, y), got, e, want)
		}
	})
}

func bigPow(a *big.Rat, n int) *big.Rat {
	r := big.NewRat(1, 1)
	for range n {
		r.Mul(r, a)
	}
	return r
}

func bigStep(a *big.Rat) *big.Rat { return big.NewRat(int64(max(a.Sign(), 0)), 1) }

func TestOneAgrees(t *testing.T) {
	eachShape(func(r *rand.Rand, s api.Shape) {
		x, n, by := anyTensor(r, s), r.IntN(api.MaxPow+1), anyRat(r)
		for _, c := range []struct {
			call ofOne
			big  func(a *big.Rat) *big.Rat
		}{
			{ofOne{"Neg", point.Neg}, func(a *big.Rat) *big.Rat { return a.Neg(a) }},
			{ofOne{"Relu", point.Relu}, func(a *big.Rat) *big.Rat { return a.Mul(a, bigStep(a)) }},
			{ofOne{"Step", point.Step}, bigStep},
			{pow(n), func(a *big.Rat) *big.Rat { return bigPow(a, n) }},
			{scale(by), func(a *big.Rat) *big.Rat { return a.Mul(a, toBig(by)) }},
		} {
			want := api.Tensor{Shape: s}
			for _, a := range x.Elems {
				want.Elems = append(want.Elems, fromBig(c.big(toBig(a))))
			}
			got, e := c.call.do(x)
			checkCall(t, fmt.Sprint(c.call.name, x), got, e, want)
		}
	})
}

// P8.3

func TestReluIsTheProductWithStep(t *testing.T) {
	eachShape(func(r *rand.Rand, s api.Shape) {
		must := good(t)
		x := anyTensor(r, s)
		checkTensor(t, "the product with Step", must(point.Mul(x, must(point.Step(x)))), must(point.Relu(x)))
	})
}

func TestTensorsAreDifferencesOfRelus(t *testing.T) {
	eachShape(func(r *rand.Rand, s api.Shape) {
		must := good(t)
		x := anyTensor(r, s)
		above, below := must(point.Relu(x)), must(point.Relu(must(point.Neg(x))))
		checkTensor(t, "the difference of Relus", must(point.Sub(above, below)), x)
		checkTensor(t, "the product of Relus", must(point.Mul(above, below)), full(s, "0"))
	})
}

func TestSumsAndProductsHaveTheLaws(t *testing.T) {
	eachShape(func(r *rand.Rand, s api.Shape) {
		must := good(t)
		x, y, z := anyTensor(r, s), anyTensor(r, s), anyTensor(r, s)
		add := func(a, b api.Tensor) api.Tensor { return must(point.Add(a, b)) }
		mul := func(a, b api.Tensor) api.Tensor { return must(point.Mul(a, b)) }
		checkTensor(t, "x + y", add(x, y), add(y, x))
		checkTensor(t, "x y", mul(x, y), mul(y, x))
		checkTensor(t, "x + (y + z)", add(x, add(y, z)), add(add(x, y), z))
		checkTensor(t, "x (y z)", mul(x, mul(y, z)), mul(mul(x, y), z))
		checkTensor(t, "x (y + z)", mul(x, add(y, z)), add(mul(x, y), mul(x, z)))
		checkTensor(t, "x + 0", add(x, full(s, "0")), x)
		checkTensor(t, "x 1", mul(x, full(s, "1")), x)
		checkTensor(t, "x 0", mul(x, full(s, "0")), full(s, "0"))
	})
}

func TestOperationsAreTakenBack(t *testing.T) {
	eachShape(func(r *rand.Rand, s api.Shape) {
		must := good(t)
		x, y, z := anyTensor(r, s), anyTensor(r, s), anyDivisor(r, s)
		checkTensor(t, "x + y - y", must(point.Sub(must(point.Add(x, y)), y)), x)
		checkTensor(t, "x z / z", must(point.Div(must(point.Mul(x, z)), z)), x)
		checkTensor(t, "x / z z", must(point.Mul(must(point.Div(x, z)), z)), x)
		checkTensor(t, "- - x", must(point.Neg(must(point.Neg(x)))), x)
		checkTensor(t, "x - y", must(point.Sub(x, y)), must(point.Add(x, must(point.Neg(y)))))
	})
}

func TestPowersAreProducts(t *testing.T) {
	r := random()
	for _, s := range []api.Shape{nil, {3}, {2, 2}} {
		must := good(t)
		x := anyTensor(r, s)
		want := full(s, "1")
		for n := range api.MaxPow + 1 {
			checkTensor(t, fmt.Sprint("Pow ", n), must(point.Pow(x, n)), want)
			want = must(point.Mul(want, x))
		}
	}
}

func TestScaleIsAProduct(t *testing.T) {
	eachShape(func(r *rand.Rand, s api.Shape) {
		must := good(t)
		x, by := anyTensor(r, s), anyRat(r)
		all := must(tensor.Full(s, by))
		checkTensor(t, fmt.Sprint("Scale ", by), must(point.Scale(x, by)), must(point.Mul(x, all)))
	})
}

// Only numbers in files have at most MaxLimbs limbs: results may have more.
func TestLongNumbers(t *testing.T) {
	r := random()
	long := func() api.Tensor {
		x := api.Tensor{Shape: api.Shape{2, 3}}
		for range 6 {
			num, den := make(api.Nat, api.MaxLimbs), make(api.Nat, api.MaxLimbs)
			for i := range num {
				num[i], den[i] = r.Uint32()|1, r.Uint32()|1
			}
			x.Elems = append(x.Elems, fromBig(toBig(api.Rat{Neg: r.IntN(2) == 0, Num: num, Den: den})))
		}
		return x
	}
	x, y := long(), long()
	for i, call := range callsOfTwo() {
		want := api.Tensor{Shape: x.Shape}
		for k, a := range x.Elems {
			want.Elems = append(want.Elems, fromBig(bigOfTwo()[i](toBig(a), toBig(y.Elems[k]))))
		}
		got, e := call.do(x, y)
		checkCall(t, call.name, got, e, want)
	}
	want := api.Tensor{Shape: x.Shape}
	for _, a := range x.Elems {
		want.Elems = append(want.Elems, fromBig(bigPow(toBig(a), api.MaxPow)))
	}
	got, e := point.Pow(x, api.MaxPow)
	checkCall(t, "Pow", got, e, want)
}
