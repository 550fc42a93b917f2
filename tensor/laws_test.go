package tensor_test

import (
	"math/big"
	"math/rand/v2"
	"slices"
	"testing"

	"fluxion/api"
	"fluxion/rat"
	"fluxion/shape"
	"fluxion/tensor"
)

func toInt(a api.Nat) *big.Int {
	b := new(big.Int)
	for _, x := range slices.Backward(a) {
		b.Lsh(b, 32).Or(b, big.NewInt(int64(x)))
	}
	return b
}

// toBig reads a number as what the document says it counts as.
func toBig(x api.Rat) *big.Rat {
	n, d := toInt(x.Num), toInt(x.Den)
	if d.Sign() == 0 {
		return new(big.Rat)
	}
	if x.Neg {
		n.Neg(n)
	}
	return new(big.Rat).SetFrac(n, d)
}

// anyRat returns a number that need not be valid; many are small or count as 0.
func anyRat(r *rand.Rand) api.Rat {
	side := func() api.Nat {
		if r.IntN(2) == 0 {
			return api.Nat{r.Uint32N(12)}
		}
		a := make(api.Nat, r.IntN(4))
		for i := range a {
			a[i] = r.Uint32() >> (8 * r.IntN(5))
		}
		return a
	}
	return api.Rat{Neg: r.IntN(2) == 0, Num: side(), Den: side()}
}

func anyRats(r *rand.Rand, n int) []api.Rat {
	var list []api.Rat
	for range n {
		list = append(list, anyRat(r))
	}
	return list
}

// random is the same in every run.
func random() *rand.Rand { return rand.New(rand.NewPCG(7, 7)) }

func made(t *testing.T, s api.Shape, l []api.Rat) api.Tensor {
	t.Helper()
	x, e := tensor.Make(s, l...)
	checkError(t, "Make", e, api.OK)
	checkError(t, "May of a made tensor", tensor.May(x), api.OK)
	return x
}

func dot(t *testing.T, a, b api.Tensor) api.Rat {
	t.Helper()
	d, e := tensor.Dot(a, b)
	checkError(t, "Dot", e, api.OK)
	checkError(t, "May of a product", rat.May(d), api.OK)
	return d
}

// shapes are valid, and small enough for many products.
func shapes() []api.Shape {
	return []api.Shape{nil, {1}, {2}, {5}, {2, 3}, {1, 4}, {3, 2, 2}, {2, 1, 3, 2}, {31}}
}

// Numbers are held against math/big, one by one.
func TestMadeTensorsAgree(t *testing.T) {
	r := random()
	for _, s := range shapes() {
		for range 20 {
			l := anyRats(r, shape.Count(s))
			x := made(t, s, l)
			most := 0
			for i, y := range l {
				b := toBig(y)
				most = max(most, b.Num().BitLen(), b.Denom().BitLen())
				index, _ := shape.Index(s, i)
				got, e := tensor.At(x, index...)
				checkError(t, "At", e, api.OK)
				checkRat(t, "At", got, fromBig(b))
			}
			given := api.Tensor{Shape: s, Elems: l}
			if n, m := tensor.Bits(x), tensor.Bits(given); n != most || m != most {
				t.Errorf("Bits of %v: %d, before Make %d, want %d", x, n, m, most)
			}
			if !tensor.Same(x, given) || !tensor.Same(given, x) {
				t.Errorf("Same of %v and %v", x, given)
			}
			isNorms := slices.EqualFunc(l, x.Elems, alike)
			if e := tensor.May(given); (e == api.OK) != isNorms {
				t.Errorf("May of %v: error %d", given, e)
			}
		}
	}
}

// Every number that differs is seen, wherever it is.
func TestSameSeesEveryNumber(t *testing.T) {
	for _, s := range shapes() {
		for i := range shape.Count(s) {
			x := made(t, s, counted(shape.Count(s)))
			y := tensor.Copy(x)
			y.Elems[i] = num("-1/2")
			if !tensor.Same(x, x) || tensor.Same(x, y) || tensor.Same(y, x) {
				t.Errorf("Same of %v and %v", x, y)
			}
		}
	}
}

func TestDotAgrees(t *testing.T) {
	r := random()
	for _, s := range shapes() {
		for range 20 {
			a, b := made(t, s, anyRats(r, shape.Count(s))), made(t, s, anyRats(r, shape.Count(s)))
			checkRat(t, "Dot", dot(t, a, b), bigDot(a, b))
		}
	}
}

func bigDot(a, b api.Tensor) api.Rat {
	sum := new(big.Rat)
	for i, x := range a.Elems {
		sum.Add(sum, new(big.Rat).Mul(toBig(x), toBig(b.Elems[i])))
	}
	return fromBig(sum)
}

// P7.4

func TestDotDoesNotDependOnTheOrder(t *testing.T) {
	r := random()
	for _, s := range shapes() {
		for range 20 {
			a, b := made(t, s, anyRats(r, shape.Count(s))), made(t, s, anyRats(r, shape.Count(s)))
			checkRat(t, "Dot", dot(t, a, b), dot(t, b, a))
		}
	}
}

func TestDotIsLinear(t *testing.T) {
	r := random()
	for _, s := range shapes() {
		for range 20 {
			n := shape.Count(s)
			a, b, c := made(t, s, anyRats(r, n)), made(t, s, anyRats(r, n)), made(t, s, anyRats(r, n))
			k := anyRat(r)
			sum, scaled := tensor.Copy(a), tensor.Copy(a)
			for i := range n {
				sum.Elems[i] = rat.Add(a.Elems[i], b.Elems[i])
				scaled.Elems[i] = rat.Mul(k, a.Elems[i])
			}
			want := rat.Add(dot(t, a, c), dot(t, b, c))
			checkRat(t, "Dot of a sum", dot(t, sum, c), want)
			checkRat(t, "Dot of something and a sum", dot(t, c, sum), want)
			want = rat.Mul(k, dot(t, a, c))
			checkRat(t, "Dot of a multiple", dot(t, scaled, c), want)
			checkRat(t, "Dot of something and a multiple", dot(t, c, scaled), want)
		}
	}
}

func TestDotWithItselfIsPositive(t *testing.T) {
	r := random()
	for _, s := range shapes() {
		n := shape.Count(s)
		zero := made(t, s, make([]api.Rat, n))
		checkRat(t, "Dot of noughts with themselves", dot(t, zero, zero), num("0"))
		for i := range n {
			// One number alone is not nought; its square is.
			x := tensor.Copy(zero)
			x.Elems[i] = num("-1/18446744073709551616")
			checkRat(t, "Dot with itself", dot(t, x, x), num("1/340282366920938463463374607431768211456"))
			checkRat(t, "Dot with noughts", dot(t, x, zero), num("0"))
		}
		for range 20 {
			x := made(t, s, anyRats(r, n))
			want := 1
			if tensor.Same(x, zero) {
				want = 0
			}
			if d := dot(t, x, x); rat.Sign(d) != want {
				t.Errorf("Dot of %v with itself: %v", x, d)
			}
		}
	}
}

// The product with a tensor of one 1 among noughts is an element, and that with ones is the sum.
func TestDotTakesElements(t *testing.T) {
	r := random()
	for _, s := range shapes() {
		n := shape.Count(s)
		x := made(t, s, anyRats(r, n))
		sum := num("0")
		for i := range n {
			unit := made(t, s, make([]api.Rat, n))
			unit.Elems[i] = num("1")
			checkRat(t, "Dot with a unit", dot(t, x, unit), x.Elems[i])
			sum = rat.Add(sum, x.Elems[i])
		}
		ones, e := tensor.Full(s, num("1"))
		checkError(t, "Full", e, api.OK)
		checkRat(t, "Dot with ones", dot(t, ones, x), sum)
	}
}

// Fractions without common factors make the sum grow with every element: this must not take minutes.
func TestDotOfManyLongFractions(t *testing.T) {
	r := random()
	long := func() []api.Rat {
		var list []api.Rat
		for range api.MaxElems {
			list = append(list, api.Rat{Neg: r.IntN(2) == 0, Num: api.Nat{r.Uint32()}, Den: api.Nat{r.Uint32() | 1}})
		}
		return list
	}
	s := api.Shape{32, 32}
	a, b := made(t, s, long()), made(t, s, long())
	checkRat(t, "Dot", dot(t, a, b), bigDot(a, b))
}
