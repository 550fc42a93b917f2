package fold_test

import (
	"fmt"
	"math/big"
	"math/rand/v2"
	"slices"
	"testing"

	"fluxion/api"
	"fluxion/fold"
	"fluxion/point"
	"fluxion/rat"
	"fluxion/shape"
	"fluxion/tensor"
)

func toInt(a api.Nat) *big.Int {
	b := new(big.Int)
	for _, x := range slices.Backward(a) {
		b.Lsh(b, 32).Or(b, big.NewInt(int64(x)))
	}
	return b
}

// toBig is given a valid number.
func toBig(x api.Rat) *big.Rat {
	b := new(big.Rat).SetFrac(toInt(x.Num), toInt(x.Den))
	if x.Neg {
		b.Neg(b)
	}
	return b
}

// random is the same in every run.
func random() *rand.Rand { return rand.New(rand.NewPCG(10, 10)) }

// anyTensor returns a valid tensor; many of its elements are 0, or below.
func anyTensor(r *rand.Rand, s ...int) api.Tensor {
	x := api.Tensor{Shape: s}
	for range count(s) {
		x.Elems = append(x.Elems, fromBig(big.NewRat(int64((r.IntN(4)-2)*r.IntN(1<<40)), int64(r.IntN(1<<r.IntN(36))+1))))
	}
	return x
}

// lists returns all lists of a length with numbers from low to high.
func lists(length, low, high int) [][]int {
	all := [][]int{nil}
	for range length {
		var next [][]int
		for _, l := range all {
			for n := low; n <= high; n++ {
				next = append(next, append(slices.Clone(l), n))
			}
		}
		all = next
	}
	return all
}

// smallShapes have dimensions from 1 to 3.
func smallShapes() []api.Shape {
	var list []api.Shape
	for rank := range api.MaxRank + 1 {
		for _, l := range lists(rank, 1, 3) {
			list = append(list, l)
		}
	}
	return list
}

// axesOf returns all axes of a rank.
func axesOf(rank int) [][]int {
	var all [][]int
	for _, marks := range lists(rank, 0, 1) {
		var axes []int
		for i, m := range marks {
			if m == 1 {
				axes = append(axes, i)
			}
		}
		all = append(all, axes)
	}
	return all
}

// inOrder lists all indices of a shape as the definition of layer 6 orders them.
func inOrder(s api.Shape) [][]int {
	all := [][]int{nil}
	for _, d := range s {
		var next [][]int
		for _, l := range all {
			for n := range d {
				next = append(next, append(slices.Clone(l), n))
			}
		}
		all = next
	}
	return all
}

// without returns a list without the numbers at the axes.
func without(l []int, axes []int) []int {
	var r []int
	for i, n := range l {
		if !slices.Contains(axes, i) {
			r = append(r, n)
		}
	}
	return r
}

// good returns the result of a call that has no error, if it is valid.
func good(t *testing.T) func(x api.Tensor, e api.Errno) api.Tensor {
	return func(x api.Tensor, e api.Errno) api.Tensor {
		t.Helper()
		checkError(t, "a call", e, api.OK)
		checkError(t, "May of a result", tensor.May(x), api.OK)
		return x
	}
}

// summedOf looks for the elements of each sum, as the definition says it: so it goes from the sum
// to the elements, not from the elements to the sum. It returns the mean, too.
func summedOf(x api.Tensor, axes []int) (sum, mean api.Tensor) {
	s := without(x.Shape, axes)
	sum.Shape, mean.Shape = s, s
	indices := inOrder(x.Shape)
	for _, to := range inOrder(s) {
		all, number := new(big.Rat), int64(0)
		for place, index := range indices {
			if slices.Equal(without(index, axes), to) {
				all.Add(all, toBig(x.Elems[place]))
				number++
			}
		}
		sum.Elems = append(sum.Elems, fromBig(all))
		mean.Elems = append(mean.Elems, fromBig(all.Quo(all, big.NewRat(number, 1))))
	}
	return sum, mean
}

func TestAllSums(t *testing.T) {
	r := random()
	for _, s := range smallShapes() {
		for _, axes := range axesOf(len(s)) {
			x := anyTensor(r, s...)
			sum, mean := summedOf(x, axes)
			checkFolded(t, []folded{{x, axes, sum, mean}})
		}
	}
}

// axesError asks for each error by itself.
func axesError(axes []int, rank int) api.Errno {
	for i, n := range axes {
		if n < 0 || i > 0 && axes[i-1] >= n {
			return api.ErrAttr
		}
	}
	if slices.ContainsFunc(axes, func(n int) bool { return n >= rank }) {
		return api.ErrShape
	}
	return api.OK
}

func TestAllSmallAxes(t *testing.T) {
	for _, s := range []api.Shape{nil, {3}, {1}, {2, 3}, {2, 1, 2}, {1, 2, 1, 3}} {
		x := numbered(s...)
		for length := range 4 {
			for _, axes := range lists(length, -1, 5) {
				if want := axesError(axes, len(s)); want != api.OK {
					checkAxes(t, x, want, axes)
					continue
				}
				sum, mean := summedOf(x, axes)
				checkFolded(t, []folded{{x, axes, sum, mean}})
			}
		}
	}
}

// productOf goes through the definition with the offsets of the elements.
func productOf(x, y api.Tensor) api.Tensor {
	rows, between, columns := x.Shape[0], x.Shape[1], y.Shape[1]
	p := api.Tensor{Shape: api.Shape{rows, columns}}
	for i := range rows {
		for j := range columns {
			sum := new(big.Rat)
			for k := range between {
				a, b := toBig(x.Elems[i*between+k]), toBig(y.Elems[k*columns+j])
				sum.Add(sum, a.Mul(a, b))
			}
			p.Elems = append(p.Elems, fromBig(sum))
		}
	}
	return p
}

// eachProduct gives the sizes of all small products, and of some greater ones.
func eachProduct(do func(r *rand.Rand, rows, between, columns int)) {
	r := random()
	for _, l := range append(lists(3, 1, 4), []int{9, 1, 9}, []int{1, 30, 1}, []int{7, 8, 5}, []int{2, 31, 3}, []int{20, 2, 1}, []int{1, 2, 20}) {
		do(r, l[0], l[1], l[2])
	}
}

func TestAllSmallProducts(t *testing.T) {
	eachProduct(func(r *rand.Rand, rows, between, columns int) {
		x, y := anyTensor(r, rows, between), anyTensor(r, between, columns)
		checkProducts(t, []multiplied{{x, y, productOf(x, y)}})
	})
}

// added is the sum of a matrix and a tensor that fits it. The numbers of an index are counted from
// the end.
func added(p, z api.Tensor) api.Tensor {
	sum := api.Tensor{Shape: p.Shape}
	for place, index := range inOrder(p.Shape) {
		from := 0
		for k := len(z.Shape); k > 0; k-- {
			d := z.Shape[len(z.Shape)-k]
			from *= d
			if d > 1 {
				from += index[len(index)-k]
			}
		}
		a := toBig(p.Elems[place])
		sum.Elems = append(sum.Elems, fromBig(a.Add(a, toBig(z.Elems[from]))))
	}
	return sum
}

// Every small tensor either fits or is refused.
func TestAllThirdTensors(t *testing.T) {
	r, list := random(), append(smallShapes(), api.Shape{4}, api.Shape{4, 1}, api.Shape{1, 4}, api.Shape{4, 4})
	for _, l := range lists(3, 1, 3) {
		x, y := anyTensor(r, l[0], l[1]), anyTensor(r, l[1], l[2])
		for _, s := range list {
			z := anyTensor(r, s...)
			got, e := fold.Gemm(x, y, z)
			call := fmt.Sprint("Gemm of ", x.Shape, y.Shape, s)
			if shape.Fits(s, api.Shape{l[0], l[2]}) == api.OK {
				checkCall(t, call, got, e, added(productOf(x, y), z))
				continue
			}
			checkNone(t, call, got, e, api.ErrShape)
		}
	}
}

// P10.3

// Over each axis the dimensions that are left are numbered from 0 again.
func TestSumsOneAfterTheOther(t *testing.T) {
	r := random()
	for _, s := range smallShapes() {
		must := good(t)
		x := anyTensor(r, s...)
		for _, axes := range axesOf(len(s)) {
			want := must(fold.Sum(x, axes...))
			first, last := x, x
			for done, axis := range axes {
				first = must(fold.Sum(first, axis-done))
			}
			for _, axis := range slices.Backward(axes) {
				last = must(fold.Sum(last, axis))
			}
			checkTensor(t, fmt.Sprint("Sum of ", s, " over each of ", axes), first, want)
			checkTensor(t, fmt.Sprint("Sum of ", s, " over each of ", axes, " backward"), last, want)
		}
	}
}

// Some axes first and then the others, for all of four dimensions.
func TestSumsOverSomeAxesFirst(t *testing.T) {
	must := good(t)
	x := anyTensor(random(), 2, 3, 2, 2)
	all := must(fold.Sum(x, 0, 1, 2, 3))
	for _, axes := range axesOf(4) {
		rest := must(fold.Sum(x, axes...))
		left := []int{0, 1, 2, 3}[:len(rest.Shape)]
		checkTensor(t, fmt.Sprint("Sum over ", axes, " and the others"), must(fold.Sum(rest, left...)), all)
		mean := must(fold.Mean(must(fold.Mean(x, axes...)), left...))
		checkTensor(t, fmt.Sprint("Mean over ", axes, " and the others"), mean, must(fold.Mean(x, 0, 1, 2, 3)))
	}
}

func TestMeanIsAPartOfTheSum(t *testing.T) {
	r := random()
	for _, s := range smallShapes() {
		must := good(t)
		x := anyTensor(r, s...)
		for _, axes := range axesOf(len(s)) {
			number := 1
			for _, axis := range axes {
				number *= s[axis]
			}
			sum := must(point.Scale(must(fold.Mean(x, axes...)), rat.Int(int64(number))))
			checkTensor(t, fmt.Sprint("Mean of ", s, " over ", axes), sum, must(fold.Sum(x, axes...)))
		}
	}
}

func TestSumsOfSums(t *testing.T) {
	r := random()
	for _, s := range smallShapes() {
		must := good(t)
		x, y := anyTensor(r, s...), anyTensor(r, s...)
		for _, axes := range axesOf(len(s)) {
			apart := must(point.Add(must(fold.Sum(x, axes...)), must(fold.Sum(y, axes...))))
			checkTensor(t, fmt.Sprint("Sum of a sum ", s, " over ", axes), must(fold.Sum(must(point.Add(x, y)), axes...)), apart)
		}
	}
}

func TestProductsOfThree(t *testing.T) {
	eachProduct(func(r *rand.Rand, a, b, c int) {
		must := good(t)
		for _, d := range []int{1, 2, 5} {
			x, y, z := anyTensor(r, a, b), anyTensor(r, b, c), anyTensor(r, c, d)
			left := must(fold.MatMul(must(fold.MatMul(x, y)), z))
			right := must(fold.MatMul(x, must(fold.MatMul(y, z))))
			checkTensor(t, fmt.Sprint("a product of three: ", a, b, c, d), left, right)
		}
	})
}

func TestProductsWithSums(t *testing.T) {
	eachProduct(func(r *rand.Rand, a, b, c int) {
		must := good(t)
		x, y, z := anyTensor(r, a, b), anyTensor(r, b, c), anyTensor(r, b, c)
		xy, xz := must(fold.MatMul(x, y)), must(fold.MatMul(x, z))
		sum := must(point.Add(xy, xz))
		checkTensor(t, fmt.Sprint("x (y + z): ", a, b, c), must(fold.MatMul(x, must(point.Add(y, z)))), sum)
		checkTensor(t, fmt.Sprint("Gemm of x, y and x z: ", a, b, c), must(fold.Gemm(x, y, xz)), sum)
		v := anyTensor(r, a, b)
		both := must(point.Add(xy, must(fold.MatMul(v, y))))
		checkTensor(t, fmt.Sprint("(x + v) y: ", a, b, c), must(fold.MatMul(must(point.Add(x, v)), y)), both)
	})
}

// unit has 1 where both numbers of the index are the same.
func unit(n int) api.Tensor {
	x := full("0", n, n)
	for i := range n {
		x.Elems[i*n+i] = num("1")
	}
	return x
}

func TestProductsWithOneAndWithZero(t *testing.T) {
	eachProduct(func(r *rand.Rand, a, b, c int) {
		x := anyTensor(r, a, b)
		checkProducts(t, []multiplied{
			{x, unit(b), x},
			{unit(a), x, x},
			{x, full("0", b, c), full("0", a, c)},
			{full("0", c, a), x, full("0", c, b)},
		})
	})
}

// A sum over an axis is the product with a matrix of ones, and a product of a row and a column is
// that of layer 7.
func TestSumsAreProducts(t *testing.T) {
	eachProduct(func(r *rand.Rand, a, b, _ int) {
		must := good(t)
		x, y := anyTensor(r, a, b), anyTensor(r, a, b)
		columns, rows := must(fold.MatMul(full("1", 1, a), x)), must(fold.MatMul(x, full("1", b, 1)))
		checkTensor(t, "the sum over rows", api.Tensor{Shape: api.Shape{b}, Elems: columns.Elems}, must(fold.Sum(x, 0)))
		checkTensor(t, "the sum over columns", api.Tensor{Shape: api.Shape{a}, Elems: rows.Elems}, must(fold.Sum(x, 1)))
		dot, e := tensor.Dot(x, y)
		checkError(t, "Dot", e, api.OK)
		line := must(fold.MatMul(api.Tensor{Shape: api.Shape{1, a * b}, Elems: x.Elems}, api.Tensor{Shape: api.Shape{a * b, 1}, Elems: y.Elems}))
		checkTensor(t, "the product of a row and a column", line, api.Tensor{Shape: api.Shape{1, 1}, Elems: []api.Rat{dot}})
	})
}

// Only numbers in files have at most MaxLimbs limbs: results may have more.
func TestLongNumbers(t *testing.T) {
	r := random()
	long := func(s ...int) api.Tensor {
		x := api.Tensor{Shape: s}
		for range count(s) {
			num, den := make(api.Nat, api.MaxLimbs), make(api.Nat, api.MaxLimbs)
			for i := range num {
				num[i], den[i] = r.Uint32()|1, r.Uint32()|1
			}
			x.Elems = append(x.Elems, rat.Norm(api.Rat{Neg: r.IntN(2) == 0, Num: num, Den: den}))
		}
		return x
	}
	x, y, z := long(2, 3), long(3, 2), long(2, 1)
	for _, axes := range axesOf(2) {
		sum, mean := summedOf(x, axes)
		checkFolded(t, []folded{{x, axes, sum, mean}})
	}
	p := productOf(x, y)
	checkProducts(t, []multiplied{{x, y, p}})
	got, e := fold.Gemm(x, y, z)
	checkCall(t, "Gemm", got, e, added(p, z))
}
