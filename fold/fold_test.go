package fold_test

import (
	"fmt"
	"math"
	"math/big"
	"slices"
	"strings"
	"testing"

	"fluxion/api"
	"fluxion/fold"
	"fluxion/tensor"
)

func fromInt(b *big.Int) api.Nat {
	var a api.Nat
	for rest := new(big.Int).Set(b); rest.Sign() > 0; rest.Rsh(rest, 32) {
		a = append(a, uint32(rest.Uint64()))
	}
	return a
}

func fromBig(b *big.Rat) api.Rat {
	return api.Rat{Neg: b.Sign() < 0, Num: fromInt(new(big.Int).Abs(b.Num())), Den: fromInt(b.Denom())}
}

// num returns the valid representation of a number written as a text.
func num(text string) api.Rat {
	b, ok := new(big.Rat).SetString(text)
	if !ok {
		panic(text)
	}
	return fromBig(b)
}

// of returns the tensor with the numbers of a text, with spaces between them.
func of(s api.Shape, text string) api.Tensor {
	x := api.Tensor{Shape: s}
	for _, word := range strings.Fields(text) {
		x.Elems = append(x.Elems, num(word))
	}
	return x
}

// counted returns the numbers 1, 2 and so on.
func counted(n int) []api.Rat {
	var list []api.Rat
	for i := range n {
		list = append(list, api.Rat{Num: api.Nat{uint32(i) + 1}, Den: api.Nat{1}})
	}
	return list
}

// count is given a valid shape.
func count(s api.Shape) int {
	n := 1
	for _, d := range s {
		n *= d
	}
	return n
}

// numbered returns the tensor of a shape with the elements 1, 2 and so on.
func numbered(s ...int) api.Tensor {
	return api.Tensor{Shape: s, Elems: counted(count(s))}
}

func full(text string, s ...int) api.Tensor {
	return of(s, strings.Repeat(text+" ", count(s)))
}

// unfit are numbers that are not valid.
func unfit() []api.Rat {
	return []api.Rat{
		{},
		{Neg: true},
		{Den: api.Nat{1}, Neg: true},
		{Den: api.Nat{5}},
		{Num: api.Nat{0}, Den: api.Nat{1}},
		{Num: api.Nat{7}},
		{Num: api.Nat{2}, Den: api.Nat{4}},
		{Num: api.Nat{3}, Den: api.Nat{3}, Neg: true},
		{Num: api.Nat{1, 0}, Den: api.Nat{1}},
		{Num: api.Nat{1}, Den: api.Nat{1, 0}},
		{Num: api.Nat{0, 3}, Den: api.Nat{0, 5}, Neg: true},
	}
}

func alike(x, y api.Rat) bool {
	return x.Neg == y.Neg && slices.Equal(x.Num, y.Num) && slices.Equal(x.Den, y.Den)
}

// checkTensor asks for the very limbs, so that an element that is not valid fails too.
func checkTensor(t *testing.T, call string, got, want api.Tensor) {
	t.Helper()
	if !slices.Equal(got.Shape, want.Shape) || !slices.EqualFunc(got.Elems, want.Elems, alike) {
		t.Errorf("%s: %v, want %v", call, got, want)
	}
}

func checkError(t *testing.T, call string, got, want api.Errno) {
	t.Helper()
	if got != want {
		t.Errorf("%s: error %d, want %d", call, got, want)
	}
}

func checkCall(t *testing.T, call string, got api.Tensor, e api.Errno, want api.Tensor) {
	t.Helper()
	checkError(t, call, e, api.OK)
	checkError(t, "May of "+call, tensor.May(got), api.OK)
	checkTensor(t, call, got, want)
}

func checkNone(t *testing.T, call string, got api.Tensor, e, want api.Errno) {
	t.Helper()
	checkError(t, call, e, want)
	if len(got.Shape) > 0 || len(got.Elems) > 0 {
		t.Errorf("%s: error %d, but the result is %v", call, e, got)
	}
}

// folded is a tensor, the axes, and the sum and the mean over them.
type folded struct {
	x         api.Tensor
	axes      []int
	sum, mean api.Tensor
}

func checkFolded(t *testing.T, list []folded) {
	t.Helper()
	for _, f := range list {
		what := fmt.Sprint(" of ", f.x.Shape, " over ", f.axes)
		got, e := fold.Sum(f.x, f.axes...)
		checkCall(t, "Sum"+what, got, e, f.sum)
		got, e = fold.Mean(f.x, f.axes...)
		checkCall(t, "Mean"+what, got, e, f.mean)
	}
}

// checkAxes asks that both calls refuse the axes.
func checkAxes(t *testing.T, x api.Tensor, want api.Errno, lists ...[]int) {
	t.Helper()
	for _, axes := range lists {
		what := fmt.Sprint(" of ", x.Shape, " over ", axes)
		got, e := fold.Sum(x, axes...)
		checkNone(t, "Sum"+what, got, e, want)
		got, e = fold.Mean(x, axes...)
		checkNone(t, "Mean"+what, got, e, want)
	}
}

// P10.1

func TestSumAndMean(t *testing.T) {
	x := numbered(2, 3)
	checkFolded(t, []folded{
		{x, []int{0}, of(api.Shape{3}, "5 7 9"), of(api.Shape{3}, "5/2 7/2 9/2")},
		{x, []int{1}, of(api.Shape{2}, "6 15"), of(api.Shape{2}, "2 5")},
		{x, []int{0, 1}, of(nil, "21"), of(nil, "7/2")},
		{x, nil, x, x},
		{x, []int{}, x, x},
		{numbered(4), []int{0}, of(nil, "10"), of(nil, "5/2")},
		{of(api.Shape{3}, "1/2 1/3 1/6"), []int{0}, of(nil, "1"), of(nil, "1/3")},
		{of(api.Shape{2, 2}, "-1/2 1/3 3/4 -18446744073709551616/7"), []int{1}, of(api.Shape{2}, "-1/6 -73786976294838206443/28"), of(api.Shape{2}, "-1/12 -73786976294838206443/56")},
		{numbered(2, 2, 3), []int{0, 2}, of(api.Shape{2}, "30 48"), of(api.Shape{2}, "5 8")},
		{numbered(2, 2, 3), []int{1, 2}, of(api.Shape{2}, "21 57"), of(api.Shape{2}, "7/2 19/2")},
		{numbered(2, 2, 3), []int{0, 1}, of(api.Shape{3}, "22 26 30"), of(api.Shape{3}, "11/2 13/2 15/2")},
		{numbered(2, 1, 2, 2), []int{0, 3}, of(api.Shape{1, 2}, "14 22"), of(api.Shape{1, 2}, "7/2 11/2")},
		{numbered(2, 2, 2, 2), []int{1, 2}, of(api.Shape{2, 2}, "16 20 48 52"), of(api.Shape{2, 2}, "4 5 12 13")},
		{numbered(2, 2, 2, 2), []int{0, 1, 3}, of(api.Shape{2}, "60 76"), of(api.Shape{2}, "15/2 19/2")},
	})
}

func TestSumOfOneElement(t *testing.T) {
	one := of(nil, "-5/2")
	checkFolded(t, []folded{
		{one, nil, one, one},
		{one, []int{}, one, one},
		{of(api.Shape{}, "0"), nil, of(nil, "0"), of(nil, "0")},
		{of(api.Shape{1}, "-5/2"), []int{0}, one, one},
		{of(api.Shape{1}, "-5/2"), nil, of(api.Shape{1}, "-5/2"), of(api.Shape{1}, "-5/2")},
		{of(api.Shape{1, 1, 1, 1}, "-5/2"), []int{1, 3}, of(api.Shape{1, 1}, "-5/2"), of(api.Shape{1, 1}, "-5/2")},
		{of(api.Shape{1, 1, 1, 1}, "-5/2"), []int{0, 1, 2, 3}, one, one},
	})
}

// Over a dimension that is 1 the elements stay as they are.
func TestSumOverOnes(t *testing.T) {
	x := of(api.Shape{1, 3}, "1/2 -7 0")
	checkFolded(t, []folded{
		{x, []int{0}, of(api.Shape{3}, "1/2 -7 0"), of(api.Shape{3}, "1/2 -7 0")},
		{x, []int{1}, of(api.Shape{1}, "-13/2"), of(api.Shape{1}, "-13/6")},
		{numbered(3, 1), []int{1}, numbered(3), numbered(3)},
		{numbered(3, 1), []int{0}, of(api.Shape{1}, "6"), of(api.Shape{1}, "2")},
		{numbered(2, 1, 3, 1), []int{1, 3}, numbered(2, 3), numbered(2, 3)},
		{numbered(2, 1, 3, 1), []int{1, 2}, of(api.Shape{2, 1}, "6 15"), of(api.Shape{2, 1}, "2 5")},
		{numbered(1, 1024), []int{0}, numbered(1024), numbered(1024)},
	})
}

func TestSumsThatAreZero(t *testing.T) {
	checkFolded(t, []folded{
		{of(api.Shape{2, 2}, "1/3 -1/3 -2 2"), []int{1}, of(api.Shape{2}, "0 0"), of(api.Shape{2}, "0 0")},
		{of(api.Shape{2, 2}, "1/3 -2 -1/3 2"), []int{0}, of(api.Shape{2}, "0 0"), of(api.Shape{2}, "0 0")},
		{of(api.Shape{4}, "1/2 1/3 1/6 -1"), []int{0}, of(nil, "0"), of(nil, "0")},
		{full("0", 3, 2), []int{0}, full("0", 2), full("0", 2)},
		{full("0", 3, 2), nil, full("0", 3, 2), full("0", 3, 2)},
	})
}

func TestSumsOfManyElements(t *testing.T) {
	checkFolded(t, []folded{
		{numbered(1024), []int{0}, of(nil, "524800"), of(nil, "1025/2")},
		{numbered(4, 4, 8, 8), []int{0, 1, 2, 3}, of(nil, "524800"), of(nil, "1025/2")},
		{numbered(512, 2), []int{0}, of(api.Shape{2}, "262144 262656"), of(api.Shape{2}, "512 513")},
		{numbered(1024), nil, numbered(1024), numbered(1024)},
	})
	parts, sum := api.Tensor{Shape: api.Shape{1000}}, new(big.Rat)
	for i := range int64(1000) {
		parts.Elems = append(parts.Elems, fromBig(big.NewRat(1, i+1)))
		sum.Add(sum, big.NewRat(1, i+1))
	}
	checkFolded(t, []folded{{parts, []int{0},
		api.Tensor{Elems: []api.Rat{fromBig(sum)}},
		api.Tensor{Elems: []api.Rat{fromBig(new(big.Rat).Mul(sum, big.NewRat(1, 1000)))}}}})
}

func TestAxesThatAreNone(t *testing.T) {
	x := numbered(2, 2, 3)
	checkAxes(t, x, api.ErrAttr, []int{0, 0}, []int{1, 1}, []int{2, 2}, []int{0, 1, 1}, []int{0, 0, 1}, []int{0, 2, 2}, []int{1, 0}, []int{2, 1, 0},
		[]int{0, 2, 1}, []int{1, 2, 0}, []int{0, 1, 2, 2}, []int{0, 1, 2, 0}, []int{-1}, []int{-1, 0}, []int{-2, -1}, []int{0, -1}, []int{math.MinInt}, []int{math.MinInt, 0})
	checkAxes(t, x, api.ErrShape, []int{3}, []int{4}, []int{9}, []int{0, 3}, []int{0, 1, 2, 3}, []int{0, 1, 4}, []int{3, 4}, []int{5, 9}, []int{math.MaxInt},
		[]int{0, math.MaxInt}, []int{math.MaxInt - 1, math.MaxInt}, []int{1, 2, 1 << 32})
	// What is not in order, or below 0, goes before what is beyond the rank.
	checkAxes(t, x, api.ErrAttr, []int{3, 3}, []int{5, 4}, []int{9, 0}, []int{0, 3, 3}, []int{0, 9, 1}, []int{0, 3, 2}, []int{0, 0, 3}, []int{1, 0, 9}, []int{-1, 3}, []int{-1, 0, 1, 2, 3},
		[]int{3, -1}, []int{math.MaxInt, math.MinInt}, []int{math.MinInt, math.MaxInt}, []int{math.MaxInt, math.MaxInt}, []int{-9, 9})
	one := of(nil, "1")
	checkAxes(t, one, api.ErrShape, []int{0}, []int{1}, []int{0, 1}, []int{math.MaxInt})
	checkAxes(t, one, api.ErrAttr, []int{-1}, []int{0, 0}, []int{1, 0}, []int{-1, 0})
	checkAxes(t, numbered(1), api.ErrShape, []int{1}, []int{0, 1}, []int{2})
	checkAxes(t, numbered(2, 1, 1, 2), api.ErrShape, []int{4}, []int{0, 1, 2, 3, 4}, []int{3, 5})
	checkAxes(t, numbered(2, 1, 1, 2), api.ErrAttr, []int{3, 3}, []int{3, 2, 4}, []int{0, 1, 2, 3, 3})
}

// broken are tensors that may not be, with the error of May.
func broken() map[api.Errno][]api.Tensor {
	bad := unfit()
	odd := []api.Tensor{
		{Elems: bad[:1]},
		{Shape: api.Shape{2, 2}, Elems: append(counted(3), bad[len(bad)-1])},
		{Shape: api.Shape{len(bad)}, Elems: bad},
	}
	for _, r := range bad {
		odd = append(odd, api.Tensor{Shape: api.Shape{2}, Elems: append(counted(1), r)}, api.Tensor{Shape: api.Shape{1, 2}, Elems: append([]api.Rat{r}, counted(1)...)})
	}
	return map[api.Errno][]api.Tensor{
		api.ErrRat: odd,
		api.ErrLimit: {
			{Shape: api.Shape{1, 1, 1, 1, 1}, Elems: counted(1)},
			{Shape: api.Shape{1025}, Elems: counted(1025)},
			{Shape: api.Shape{33, 32}, Elems: counted(33 * 32)},
			{Shape: api.Shape{0, 1, 1, 1, 1}},
			{Shape: api.Shape{math.MaxInt, math.MaxInt}, Elems: bad},
		},
		api.ErrShape: {
			{},
			{Shape: api.Shape{0}},
			{Shape: api.Shape{0, 0}},
			{Shape: api.Shape{-2, -2}, Elems: counted(4)},
			{Shape: api.Shape{2, 2}},
			{Shape: api.Shape{2, 2}, Elems: counted(3)},
			{Shape: api.Shape{2, 2}, Elems: counted(5)},
			{Shape: api.Shape{2, 2}, Elems: bad[:1]},
		},
	}
}

// eachBroken gives tensors that are not valid, each with its error.
func eachBroken(do func(x api.Tensor, e api.Errno)) {
	for e, list := range broken() {
		for _, x := range list {
			do(x, e)
		}
	}
}

// A tensor that is not valid goes before whatever axes there are.
func TestSumOfBrokenTensors(t *testing.T) {
	eachBroken(func(x api.Tensor, e api.Errno) {
		checkError(t, "May", tensor.May(x), e)
		checkAxes(t, x, e, nil, []int{0}, []int{1}, []int{0, 1}, []int{-1}, []int{1, 1}, []int{1, 0}, []int{9}, []int{9, 8}, []int{-1, 9}, []int{math.MaxInt})
	})
}

// P10.2

// multiplied is two matrices and their product.
type multiplied struct{ x, y, want api.Tensor }

func checkProducts(t *testing.T, list []multiplied) {
	t.Helper()
	for _, m := range list {
		what := fmt.Sprint(" of ", m.x.Shape, " and ", m.y.Shape)
		got, e := fold.MatMul(m.x, m.y)
		checkCall(t, "MatMul"+what, got, e, m.want)
		got, e = fold.Gemm(m.x, m.y, of(nil, "0"))
		checkCall(t, "Gemm with 0"+what, got, e, m.want)
	}
}

func TestMatMul(t *testing.T) {
	x := numbered(2, 3)
	checkProducts(t, []multiplied{
		{x, of(api.Shape{3, 1}, "1 0 2"), of(api.Shape{2, 1}, "7 16")},
		{x, of(api.Shape{3, 2}, "1 0 -1 2 0 3"), of(api.Shape{2, 2}, "-1 13 -1 28")},
		{of(api.Shape{3, 2}, "1 0 -1 2 0 3"), x, of(api.Shape{3, 3}, "1 2 3 7 8 9 12 15 18")},
		{x, numbered(3, 4), of(api.Shape{2, 4}, "38 44 50 56 83 98 113 128")},
		{x, of(api.Shape{3, 3}, "1 0 0 0 1 0 0 0 1"), x},
		{of(api.Shape{2, 2}, "1 0 0 1"), x, x},
		{of(api.Shape{2, 2}, "0 1 1 0"), x, of(api.Shape{2, 3}, "4 5 6 1 2 3")},
		{x, full("0", 3, 2), full("0", 2, 2)},
		{of(api.Shape{2, 2}, "1/2 -1/3 2/5 0"), of(api.Shape{2, 2}, "2/3 1 -3 18446744073709551616"), of(api.Shape{2, 2}, "4/3 -36893488147419103229/6 4/15 2/5")},
	})
}

func TestProductsOfRowsAndColumns(t *testing.T) {
	row, column := of(api.Shape{1, 3}, "1/2 -2 3"), of(api.Shape{3, 1}, "4 1/3 -1")
	one := of(api.Shape{1, 1}, "-5/2")
	checkProducts(t, []multiplied{
		{row, column, of(api.Shape{1, 1}, "-5/3")},
		{column, row, of(api.Shape{3, 3}, "2 -8 12 1/6 -2/3 1 -1/2 2 -3")},
		{one, row, of(api.Shape{1, 3}, "-5/4 5 -15/2")},
		{column, one, of(api.Shape{3, 1}, "-10 -5/6 5/2")},
		{one, one, of(api.Shape{1, 1}, "25/4")},
		{row, numbered(3, 2), of(api.Shape{1, 2}, "19/2 11")},
		{numbered(2, 3), column, of(api.Shape{2, 1}, "5/3 35/3")},
		{of(api.Shape{1, 1}, "0"), of(api.Shape{1, 1}, "0"), of(api.Shape{1, 1}, "0")},
	})
}

// The products of an element need not be 0 for their sum to be.
func TestProductsThatAreZero(t *testing.T) {
	checkProducts(t, []multiplied{
		{of(api.Shape{1, 2}, "1/2 1"), of(api.Shape{2, 1}, "-2 1"), of(api.Shape{1, 1}, "0")},
		{of(api.Shape{2, 2}, "1 1 1 1"), of(api.Shape{2, 2}, "1 1 -1 -1"), full("0", 2, 2)},
		{of(api.Shape{2, 2}, "1 -1 1 -1"), of(api.Shape{2, 2}, "1 -1 1 -1"), full("0", 2, 2)},
	})
	got, e := fold.Gemm(of(api.Shape{1, 2}, "1/2 1"), of(api.Shape{2, 1}, "-1 1"), of(api.Shape{1}, "-1/2"))
	checkCall(t, "Gemm that is 0", got, e, of(api.Shape{1, 1}, "0"))
}

func TestGemm(t *testing.T) {
	x, y := numbered(2, 3), of(api.Shape{3, 2}, "1 0 -1 2 0 3")
	row, column := numbered(1, 3), numbered(3, 1)
	for _, c := range []struct{ x, y, z, want api.Tensor }{
		{x, y, of(nil, "1/2"), of(api.Shape{2, 2}, "-1/2 27/2 -1/2 57/2")},
		{x, y, of(api.Shape{}, "1"), of(api.Shape{2, 2}, "0 14 0 29")},
		{x, y, of(api.Shape{1}, "10"), of(api.Shape{2, 2}, "9 23 9 38")},
		{x, y, of(api.Shape{2}, "10 20"), of(api.Shape{2, 2}, "9 33 9 48")},
		{x, y, of(api.Shape{1, 1}, "10"), of(api.Shape{2, 2}, "9 23 9 38")},
		{x, y, of(api.Shape{1, 2}, "10 20"), of(api.Shape{2, 2}, "9 33 9 48")},
		{x, y, of(api.Shape{2, 1}, "10 20"), of(api.Shape{2, 2}, "9 23 19 48")},
		{x, y, of(api.Shape{2, 2}, "1 -13 1/3 0"), of(api.Shape{2, 2}, "0 0 -2/3 28")},
		{y, x, numbered(3), of(api.Shape{3, 3}, "2 4 6 8 10 12 13 17 21")},
		{y, x, numbered(3, 1), of(api.Shape{3, 3}, "2 3 4 9 10 11 15 18 21")},
		{y, x, numbered(1, 3), of(api.Shape{3, 3}, "2 4 6 8 10 12 13 17 21")},
		// Where a dimension of the product is 1 too, nothing is repeated along it.
		{row, column, of(nil, "1"), of(api.Shape{1, 1}, "15")},
		{row, column, of(api.Shape{1}, "1"), of(api.Shape{1, 1}, "15")},
		{row, column, of(api.Shape{1, 1}, "1"), of(api.Shape{1, 1}, "15")},
		{row, numbered(3, 2), of(api.Shape{2}, "1/2 1/3"), of(api.Shape{1, 2}, "45/2 85/3")},
		{row, numbered(3, 2), of(api.Shape{1, 2}, "1/2 1/3"), of(api.Shape{1, 2}, "45/2 85/3")},
		{row, numbered(3, 2), of(api.Shape{1, 1}, "1/2"), of(api.Shape{1, 2}, "45/2 57/2")},
		{x, column, of(api.Shape{2, 1}, "1/2 1/3"), of(api.Shape{2, 1}, "29/2 97/3")},
		{x, column, of(api.Shape{1}, "1/2"), of(api.Shape{2, 1}, "29/2 65/2")},
		{x, column, of(api.Shape{1, 1}, "1/2"), of(api.Shape{2, 1}, "29/2 65/2")},
	} {
		got, e := fold.Gemm(c.x, c.y, c.z)
		checkCall(t, fmt.Sprint("Gemm of ", c.x.Shape, c.y.Shape, c.z.Shape), got, e, c.want)
	}
}

func TestOneTensorSeveralTimes(t *testing.T) {
	x := of(api.Shape{2, 2}, "1 2 3 4")
	one := of(api.Shape{1, 1}, "-1/2")
	got, e := fold.MatMul(x, x)
	checkCall(t, "MatMul of a matrix twice", got, e, of(api.Shape{2, 2}, "7 10 15 22"))
	got, e = fold.Gemm(x, x, x)
	checkCall(t, "Gemm of a matrix three times", got, e, of(api.Shape{2, 2}, "8 12 18 26"))
	got, e = fold.Gemm(one, one, one)
	checkCall(t, "Gemm of a single element three times", got, e, of(api.Shape{1, 1}, "-1/4"))
	got, e = fold.Gemm(x, of(api.Shape{2, 2}, "1 0 0 1"), x)
	checkCall(t, "Gemm of a matrix, one, and the matrix", got, e, of(api.Shape{2, 2}, "2 4 6 8"))
	checkTensor(t, "the matrix", x, of(api.Shape{2, 2}, "1 2 3 4"))
}

func checkMatMul(t *testing.T, want api.Errno, x, y api.Tensor) {
	t.Helper()
	got, e := fold.MatMul(x, y)
	checkNone(t, fmt.Sprint("MatMul of ", x.Shape, " and ", y.Shape), got, e, want)
}

func checkGemm(t *testing.T, want api.Errno, x, y, z api.Tensor) {
	t.Helper()
	got, e := fold.Gemm(x, y, z)
	checkNone(t, fmt.Sprint("Gemm of ", x.Shape, ", ", y.Shape, " and ", z.Shape), got, e, want)
}

// thirds are valid tensors for Gemm; each fits some products and does not fit others.
func thirds() []api.Tensor {
	return []api.Tensor{of(nil, "1"), numbered(1), numbered(3), numbered(2, 2), numbered(7, 1), numbered(1, 7), numbered(1, 1, 1), numbered(1024)}
}

// unmatched are tensors that are no matrices, or do not go together.
func unmatched() [][2]api.Tensor {
	one, line, cube := of(nil, "1"), numbered(3), numbered(3, 1, 3)
	square, flat := numbered(3, 3), numbered(2, 3)
	return [][2]api.Tensor{
		{one, one}, {one, square}, {square, one}, {line, line}, {line, square}, {square, line}, {cube, cube}, {cube, square}, {square, cube},
		{numbered(1), numbered(1, 1)}, {numbered(1, 1), numbered(1)}, {numbered(1, 1, 1), numbered(1, 1)}, {numbered(1, 1), numbered(1, 1, 1)},
		{numbered(1, 1, 1, 1), numbered(1, 1)}, {numbered(1, 1), numbered(1, 1, 1, 1)},
		{flat, flat}, {square, flat}, {flat, numbered(2, 2)}, {flat, numbered(4, 2)}, {flat, numbered(1, 3)}, {flat, numbered(1, 1)}, {numbered(1, 1), flat},
		{numbered(3, 1), numbered(3, 1)}, {numbered(1, 3), numbered(1, 3)}, {numbered(3, 2), numbered(3, 2)}, {numbered(2, 1), numbered(2, 2)},
		// Their product would have too many elements, too.
		{numbered(1024, 1), numbered(2, 512)}, {numbered(1024, 1), numbered(1024)}, {numbered(1024), numbered(1, 1024)}, {numbered(33, 2), numbered(1, 32)},
		{numbered(512, 2), numbered(512, 2)}, {numbered(64, 1, 16), numbered(16, 64)},
	}
}

func TestNoMatricesThatGoTogether(t *testing.T) {
	for _, p := range unmatched() {
		checkMatMul(t, api.ErrShape, p[0], p[1])
		for _, z := range thirds() {
			checkGemm(t, api.ErrShape, p[0], p[1], z)
		}
	}
}

// tooLarge are matrices that go together, but to more than MaxElems elements.
func tooLarge() [][2]api.Tensor {
	return [][2]api.Tensor{
		{numbered(1024, 1), numbered(1, 2)}, {numbered(1024, 1), numbered(1, 1024)}, {numbered(2, 1), numbered(1, 1024)}, {numbered(5, 1), numbered(1, 205)},
		{numbered(103, 5), numbered(5, 10)}, {numbered(33, 1), numbered(1, 32)}, {numbered(32, 1), numbered(1, 33)}, {numbered(41, 2), numbered(2, 25)}, {numbered(512, 2), numbered(2, 512)},
	}
}

func TestProductsThatAreTooLarge(t *testing.T) {
	for _, p := range tooLarge() {
		checkMatMul(t, api.ErrLimit, p[0], p[1])
		// Before a third tensor that does not fit.
		for _, z := range thirds() {
			checkGemm(t, api.ErrLimit, p[0], p[1], z)
		}
	}
}

func TestProductsThatAreJustSoLarge(t *testing.T) {
	line := numbered(1024, 1)
	sums, pairs := api.Tensor{Shape: api.Shape{1024, 1}}, api.Tensor{Shape: api.Shape{2, 512}}
	for _, a := range line.Elems {
		sums.Elems = append(sums.Elems, num(fmt.Sprint(2*a.Num[0]+1)))
	}
	for i := range uint32(1024) {
		pairs.Elems = append(pairs.Elems, num(fmt.Sprint((1+i/512)*(1+i%512))))
	}
	checkProducts(t, []multiplied{
		{line, numbered(1, 1), line},
		{numbered(1, 1), numbered(1, 1024), numbered(1, 1024)},
		{numbered(2, 1), numbered(1, 512), pairs},
		{full("1", 32, 32), full("1/2", 32, 32), full("16", 32, 32)},
		{full("1", 4, 3), full("1/3", 3, 256), full("1", 4, 256)},
		{full("1", 11, 2), full("1/2", 2, 93), full("1", 11, 93)},
		{full("1", 1, 1024), full("1", 1024, 1), full("1024", 1, 1)},
	})
	got, e := fold.Gemm(line, of(api.Shape{1, 1}, "2"), of(nil, "1"))
	checkCall(t, "Gemm of just as many elements", got, e, sums)
	got, e = fold.Gemm(full("0", 1024, 1), numbered(1, 1), line)
	checkCall(t, "Gemm with a third tensor of just as many elements", got, e, line)
}

func TestThirdTensorsThatDoNotFit(t *testing.T) {
	x, y := numbered(2, 4), numbered(4, 3)
	for _, z := range []api.Tensor{
		numbered(2), numbered(4), numbered(6), numbered(3, 2), numbered(3, 1), numbered(1, 2), numbered(2, 2), numbered(3, 3), numbered(4, 3), numbered(2, 4), numbered(1, 4),
		numbered(1, 2, 3), numbered(1, 1, 1), numbered(1, 1, 1, 1), numbered(2, 3, 1), numbered(1, 1, 2, 3), numbered(1024),
	} {
		checkGemm(t, api.ErrShape, x, y, z)
	}
	checkGemm(t, api.ErrShape, numbered(1, 2), numbered(2, 1), numbered(2))
	checkGemm(t, api.ErrShape, numbered(1, 2), numbered(2, 1), numbered(2, 1))
	checkGemm(t, api.ErrShape, numbered(1, 2), numbered(2, 1), numbered(1, 1, 1))
	checkGemm(t, api.ErrShape, numbered(1024, 1), numbered(1, 1), numbered(1024))
	checkGemm(t, api.ErrShape, numbered(1, 1), numbered(1, 1024), numbered(1024, 1))
}

// A tensor that is not valid goes before all that is wrong with the others.
func TestProductsOfBrokenTensors(t *testing.T) {
	eachBroken(func(x api.Tensor, e api.Errno) {
		for _, y := range append(thirds(), numbered(3, 3), numbered(1024, 1)) {
			checkMatMul(t, e, x, y)
			checkMatMul(t, e, y, x)
			checkGemm(t, e, x, y, y)
			checkGemm(t, e, y, x, y)
			checkGemm(t, e, y, y, x)
		}
		for _, p := range slices.Concat(unmatched(), tooLarge()) {
			checkGemm(t, e, p[0], p[1], x)
		}
		checkGemm(t, e, numbered(2, 3), numbered(3, 2), x)
	})
}

// Of several tensors that are not valid the first one gives the error.
func TestTheFirstBrokenTensor(t *testing.T) {
	good, big := numbered(2, 2), numbered(1024)
	eachBroken(func(x api.Tensor, e api.Errno) {
		eachBroken(func(y api.Tensor, _ api.Errno) {
			checkMatMul(t, e, x, y)
			checkGemm(t, e, x, y, good)
			checkGemm(t, e, x, y, y)
			checkGemm(t, e, x, big, y)
			checkGemm(t, e, good, x, y)
			checkGemm(t, e, big, x, y)
		})
	})
}

func TestExamples(t *testing.T) {
	x := of(api.Shape{2, 3}, "1 2 3 4 5 6")
	for _, c := range []struct {
		axes []int
		want api.Tensor
	}{{[]int{0}, of(api.Shape{3}, "5 7 9")}, {[]int{1}, of(api.Shape{2}, "6 15")}, {[]int{0, 1}, of(nil, "21")}} {
		got, e := fold.Sum(x, c.axes...)
		checkCall(t, fmt.Sprint("Sum over ", c.axes), got, e, c.want)
	}
	got, e := fold.Mean(x, 1)
	checkCall(t, "Mean", got, e, of(api.Shape{2}, "2 5"))
	got, e = fold.MatMul(x, of(api.Shape{3, 1}, "1 0 2"))
	checkCall(t, "MatMul", got, e, of(api.Shape{2, 1}, "7 16"))
}
