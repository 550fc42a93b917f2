package tensor_test

import (
	"math"
	"math/big"
	"slices"
	"strings"
	"testing"

	"fluxion/api"
	"fluxion/tensor"
)

const top = math.MaxUint32

func fromInt(b *big.Int) api.Nat {
	var a api.Nat
	for rest := new(big.Int).Set(b); rest.Sign() > 0; rest.Rsh(rest, 32) {
		a = append(a, uint32(rest.Uint64()))
	}
	return a
}

func fromBig(b *big.Rat) api.Rat {
	return api.Rat{Neg: b.Sign() < 0, Num: fromInt(new(big.Int).Abs(b.Num())), Den: fromInt(b.Denom())}
}

// num returns the valid representation of a number written as a text.
func num(text string) api.Rat {
	b, ok := new(big.Rat).SetString(text)
	if !ok {
		panic(text)
	}
	return fromBig(b)
}

// nums returns the numbers of a text, with spaces between them.
func nums(text string) []api.Rat {
	var list []api.Rat
	for _, word := range strings.Fields(text) {
		list = append(list, num(word))
	}
	return list
}

// of returns a tensor without asking the package for it.
func of(s api.Shape, text string) api.Tensor {
	return api.Tensor{Shape: s, Elems: nums(text)}
}

// forms returns a valid number and others that count as it.
func forms(x api.Rat) []api.Rat {
	long := func(a api.Nat) api.Nat { return append(slices.Clone(a), 0, 0) }
	times := func(a api.Nat) api.Nat {
		if len(a) == 0 {
			return a
		}
		return append(api.Nat{0, 0}, a...)
	}
	list := []api.Rat{
		x,
		{Neg: x.Neg, Num: long(x.Num), Den: x.Den},
		{Neg: x.Neg, Num: x.Num, Den: long(x.Den)},
		{Neg: x.Neg, Num: times(x.Num), Den: times(x.Den)},
		{Neg: x.Neg, Num: long(times(x.Num)), Den: long(times(x.Den))},
	}
	if len(x.Num) > 0 {
		return list
	}
	return append(list, zeros()...)
}

// zeros are numbers that count as 0 and are not valid.
func zeros() []api.Rat {
	return []api.Rat{
		{},
		{Neg: true},
		{Den: api.Nat{1}, Neg: true},
		{Den: api.Nat{5}},
		{Num: api.Nat{0}, Den: api.Nat{1}},
		{Num: api.Nat{7}},
		{Num: api.Nat{7, 8}, Den: api.Nat{0, 0}, Neg: true},
	}
}

// unfit are numbers that are not valid.
func unfit() []api.Rat {
	return append(zeros(),
		api.Rat{Num: api.Nat{2}, Den: api.Nat{4}},
		api.Rat{Num: api.Nat{3}, Den: api.Nat{3}},
		api.Rat{Num: api.Nat{1, 0}, Den: api.Nat{1}},
		api.Rat{Num: api.Nat{1}, Den: api.Nat{1, 0}},
		api.Rat{Num: api.Nat{0, 3}, Den: api.Nat{0, 5}, Neg: true},
	)
}

// refused are shapes that are not valid, with the error that goes first.
var refused = []struct {
	s api.Shape
	e api.Errno
}{
	{api.Shape{0}, api.ErrShape},
	{api.Shape{-1}, api.ErrShape},
	{api.Shape{2, 0, 3}, api.ErrShape},
	{api.Shape{-2, -2}, api.ErrShape},
	{api.Shape{2000, 0}, api.ErrShape},
	{api.Shape{math.MinInt}, api.ErrShape},
	{api.Shape{1, 1, 1, 1, 1}, api.ErrLimit},
	{api.Shape{0, 1, 1, 1, 1}, api.ErrLimit},
	{api.Shape{1025}, api.ErrLimit},
	{api.Shape{33, 32}, api.ErrLimit},
	{api.Shape{math.MaxInt, math.MaxInt}, api.ErrLimit},
	{api.Shape{1 << 32, 1 << 32}, api.ErrLimit},
}

// counts are valid shapes with their counts.
var counts = []struct {
	s api.Shape
	n int
}{
	{nil, 1},
	{api.Shape{}, 1},
	{api.Shape{1}, 1},
	{api.Shape{1, 1, 1, 1}, 1},
	{api.Shape{2}, 2},
	{api.Shape{2, 3}, 6},
	{api.Shape{3, 1, 2}, 6},
	{api.Shape{2, 3, 4, 1}, 24},
	{api.Shape{31, 33}, 1023},
	{api.Shape{1024}, 1024},
	{api.Shape{4, 4, 8, 8}, 1024},
}

func alike(x, y api.Rat) bool {
	return x.Neg == y.Neg && slices.Equal(x.Num, y.Num) && slices.Equal(x.Den, y.Den)
}

func alikeTensors(a, b api.Tensor) bool {
	return slices.Equal(a.Shape, b.Shape) && slices.EqualFunc(a.Elems, b.Elems, alike)
}

func checkRat(t *testing.T, call string, got, want api.Rat) {
	t.Helper()
	if !alike(got, want) {
		t.Errorf("%s: %v, want %v", call, got, want)
	}
}

// checkTensor asks for the very limbs, so that an element that is not valid fails too.
func checkTensor(t *testing.T, call string, got, want api.Tensor) {
	t.Helper()
	if !alikeTensors(got, want) {
		t.Errorf("%s: %v, want %v", call, got, want)
	}
}

func checkError(t *testing.T, call string, got, want api.Errno) {
	t.Helper()
	if got != want {
		t.Errorf("%s: error %d, want %d", call, got, want)
	}
}

// counted returns the numbers 1, 2 and so on.
func counted(n int) []api.Rat {
	var list []api.Rat
	for i := range n {
		list = append(list, api.Rat{Num: api.Nat{uint32(i) + 1}, Den: api.Nat{1}})
	}
	return list
}

// P7.1

func TestMayOfValid(t *testing.T) {
	for _, c := range counts {
		checkError(t, "May", tensor.May(api.Tensor{Shape: c.s, Elems: counted(c.n)}), api.OK)
	}
	checkError(t, "May", tensor.May(of(api.Shape{2, 2}, "0 -1 3/8 -18446744073709551616/3")), api.OK)
	checkError(t, "May", tensor.May(of(nil, "0")), api.OK)
}

func TestMayOfOtherCounts(t *testing.T) {
	for _, c := range counts {
		for _, n := range []int{0, c.n - 1, c.n + 1, 2 * c.n, 3000} {
			x := api.Tensor{Shape: c.s, Elems: counted(n)}
			checkError(t, "May of another count", tensor.May(x), api.ErrShape)
		}
	}
	checkError(t, "May of the zero value", tensor.May(api.Tensor{}), api.ErrShape)
}

func TestMayOfUnfitNumbers(t *testing.T) {
	for _, c := range counts {
		for _, bad := range unfit() {
			for _, i := range []int{0, c.n / 2, c.n - 1} {
				x := api.Tensor{Shape: c.s, Elems: counted(c.n)}
				x.Elems[i] = bad
				checkError(t, "May of an unfit number", tensor.May(x), api.ErrRat)
			}
		}
	}
}

// The shape goes before the number of elements, and that before the elements.
func TestOrderOfMay(t *testing.T) {
	for _, c := range refused {
		for _, n := range []int{0, 1, 2, 4} {
			x := api.Tensor{Shape: c.s, Elems: counted(n)}
			checkError(t, "May of a refused shape", tensor.May(x), c.e)
			x.Elems = slices.Repeat([]api.Rat{{}}, n)
			checkError(t, "May of a refused shape and unfit numbers", tensor.May(x), c.e)
		}
	}
	for _, c := range counts {
		x := api.Tensor{Shape: c.s, Elems: make([]api.Rat, c.n+1)}
		checkError(t, "May of unfit numbers, one more", tensor.May(x), api.ErrShape)
		x.Elems = make([]api.Rat, c.n-1)
		checkError(t, "May of unfit numbers, one less", tensor.May(x), api.ErrShape)
	}
}

func TestMake(t *testing.T) {
	for _, c := range counts {
		want := api.Tensor{Shape: c.s, Elems: counted(c.n)}
		got, e := tensor.Make(c.s, counted(c.n)...)
		checkError(t, "Make", e, api.OK)
		checkTensor(t, "Make", got, want)
		checkError(t, "May of a made tensor", tensor.May(got), api.OK)
	}
}

func TestMakeTakesNorms(t *testing.T) {
	for _, text := range []string{"0", "1", "-1", "3/8", "-18446744073709551616/3"} {
		for _, x := range forms(num(text)) {
			for _, y := range forms(num("-7/2")) {
				got, e := tensor.Make(api.Shape{3}, x, y, x)
				checkError(t, "Make", e, api.OK)
				checkTensor(t, "Make", got, of(api.Shape{3}, text+" -7/2 "+text))
			}
			got, e := tensor.Make(nil, x)
			checkError(t, "Make of rank 0", e, api.OK)
			checkTensor(t, "Make of rank 0", got, of(nil, text))
		}
	}
}

func TestMakeErrors(t *testing.T) {
	check := func(s api.Shape, l []api.Rat, want api.Errno) {
		got, e := tensor.Make(s, l...)
		checkError(t, "Make", e, want)
		checkTensor(t, "Make with an error", got, api.Tensor{})
	}
	for _, c := range refused {
		for _, n := range []int{0, 1, 2, 4} {
			check(c.s, counted(n), c.e)
			check(c.s, make([]api.Rat, n), c.e)
		}
	}
	for _, c := range counts {
		for _, n := range []int{0, c.n - 1, c.n + 1, 3000} {
			check(c.s, counted(n), api.ErrShape)
			check(c.s, make([]api.Rat, n), api.ErrShape)
		}
	}
}

func TestFull(t *testing.T) {
	for _, c := range counts {
		for _, text := range []string{"0", "-5/3", "18446744073709551616"} {
			want := api.Tensor{Shape: c.s, Elems: slices.Repeat(nums(text), c.n)}
			for _, x := range forms(num(text)) {
				got, e := tensor.Full(c.s, x)
				checkError(t, "Full", e, api.OK)
				checkTensor(t, "Full", got, want)
			}
		}
	}
}

func TestFullErrors(t *testing.T) {
	for _, c := range refused {
		for _, x := range append(unfit(), num("1"), num("-2/3")) {
			got, e := tensor.Full(c.s, x)
			checkError(t, "Full", e, c.e)
			checkTensor(t, "Full with an error", got, api.Tensor{})
		}
	}
}

func TestScalar(t *testing.T) {
	for _, text := range []string{"0", "7", "-3/8", "1/18446744073709551616"} {
		for _, x := range forms(num(text)) {
			got := tensor.Scalar(x)
			checkTensor(t, "Scalar", got, of(nil, text))
			checkError(t, "May of Scalar", tensor.May(got), api.OK)
		}
	}
}

// odd are tensors that are not valid, each in its own way.
func odd() []api.Tensor {
	return []api.Tensor{
		{},
		{Shape: api.Shape{0}},
		{Shape: api.Shape{3}},
		{Shape: api.Shape{-2, -2}, Elems: counted(4)},
		{Shape: api.Shape{1, 1, 1, 1, 1}, Elems: counted(1)},
		{Shape: api.Shape{2000}, Elems: counted(2000)},
		{Elems: counted(2)},
		{Shape: api.Shape{2}, Elems: counted(1)},
		{Shape: api.Shape{2}, Elems: counted(3)},
		{Elems: []api.Rat{{}}},
		{Shape: api.Shape{len(unfit())}, Elems: unfit()},
		{Shape: api.Shape{2, 2}, Elems: append(counted(3), api.Rat{Num: api.Nat{6, 0, 0}, Den: api.Nat{4, 0}, Neg: true})},
	}
}

// A copy has the very limbs, even where they count as others.
func TestCopy(t *testing.T) {
	for _, c := range counts {
		x := api.Tensor{Shape: c.s, Elems: counted(c.n)}
		checkTensor(t, "Copy", tensor.Copy(x), x)
	}
	for _, x := range append(odd(), of(api.Shape{2, 2}, "0 -1 3/8 -18446744073709551616/3")) {
		checkTensor(t, "Copy", tensor.Copy(x), x)
	}
}

// P7.2

func TestAt(t *testing.T) {
	x := of(api.Shape{2, 3, 2}, "0 1 2 3 4 5 -6 7/2 8 9 10 -11/3")
	for _, c := range []struct {
		index []int
		want  string
	}{
		{[]int{0, 0, 0}, "0"},
		{[]int{0, 0, 1}, "1"},
		{[]int{0, 1, 0}, "2"},
		{[]int{0, 2, 1}, "5"},
		{[]int{1, 0, 0}, "-6"},
		{[]int{1, 0, 1}, "7/2"},
		{[]int{1, 2, 0}, "10"},
		{[]int{1, 2, 1}, "-11/3"},
	} {
		got, e := tensor.At(x, c.index...)
		checkError(t, "At", e, api.OK)
		checkRat(t, "At", got, num(c.want))
	}
}

func TestAtTheEnds(t *testing.T) {
	for _, c := range counts {
		x := api.Tensor{Shape: c.s, Elems: counted(c.n)}
		first, last := make([]int, len(c.s)), make([]int, len(c.s))
		for i, d := range c.s {
			last[i] = d - 1
		}
		got, e := tensor.At(x, first...)
		checkError(t, "At the first index", e, api.OK)
		checkRat(t, "At the first index", got, x.Elems[0])
		got, e = tensor.At(x, last...)
		checkError(t, "At the last index", e, api.OK)
		checkRat(t, "At the last index", got, x.Elems[c.n-1])
	}
}

func TestAtErrors(t *testing.T) {
	x := api.Tensor{Shape: api.Shape{2, 3}, Elems: counted(6)}
	scalar := of(nil, "7")
	for _, c := range []struct {
		x     api.Tensor
		index []int
		e     api.Errno
	}{
		{x, nil, api.ErrArg},
		{x, []int{1}, api.ErrArg},
		{x, []int{0, 0, 0}, api.ErrArg},
		{scalar, []int{0}, api.ErrArg},
		{scalar, []int{0, 0}, api.ErrArg},
		// Another length goes before a number out of its dimension.
		{x, []int{9}, api.ErrArg},
		{x, []int{-1, 0, 0}, api.ErrArg},
		{x, []int{-1, 0}, api.ErrRange},
		{x, []int{0, -1}, api.ErrRange},
		{x, []int{2, 0}, api.ErrRange},
		{x, []int{0, 3}, api.ErrRange},
		{x, []int{2, 3}, api.ErrRange},
		// The offsets of these would be among those of the tensor.
		{x, []int{1, -1}, api.ErrRange},
		{x, []int{0, 4}, api.ErrRange},
		{x, []int{math.MaxInt, 0}, api.ErrRange},
		{x, []int{0, math.MinInt}, api.ErrRange},
	} {
		got, e := tensor.At(c.x, c.index...)
		checkError(t, "At", e, c.e)
		checkRat(t, "At with an error", got, api.Rat{})
	}
}

// What is wrong with the tensor goes before the index, wherever the element would be.
func TestAtOfRefusedTensors(t *testing.T) {
	check := func(x api.Tensor, want api.Errno) {
		for _, index := range [][]int{nil, {0}, {-1}, make([]int, len(x.Shape))} {
			got, e := tensor.At(x, index...)
			checkError(t, "At", e, want)
			checkRat(t, "At with an error", got, api.Rat{})
		}
	}
	for _, c := range refused {
		check(api.Tensor{Shape: c.s, Elems: counted(4)}, c.e)
	}
	for _, c := range counts {
		check(api.Tensor{Shape: c.s, Elems: counted(c.n + 1)}, api.ErrShape)
		check(api.Tensor{Shape: c.s, Elems: counted(c.n - 1)}, api.ErrShape)
		x := api.Tensor{Shape: c.s, Elems: counted(c.n)}
		x.Elems[c.n-1] = api.Rat{Num: api.Nat{2}, Den: api.Nat{4}}
		check(x, api.ErrRat)
	}
}

func TestSame(t *testing.T) {
	four := "1 -2 3/4 0"
	for _, c := range []struct {
		a, b api.Tensor
		same bool
	}{
		{of(api.Shape{4}, four), of(api.Shape{4}, four), true},
		{of(api.Shape{4}, four), of(api.Shape{2, 2}, four), false},
		{of(api.Shape{4}, four), of(api.Shape{1, 4}, four), false},
		{of(api.Shape{4}, four), of(api.Shape{4}, "1 -2 3/4 1"), false},
		{of(api.Shape{4}, four), of(api.Shape{4}, "2 -2 3/4 0"), false},
		{of(api.Shape{4}, four), of(api.Shape{4}, "1 2 3/4 0"), false},
		{of(api.Shape{4}, four), of(api.Shape{4}, "1 -2 3/5 0"), false},
		{of(api.Shape{4}, four), of(api.Shape{4}, "-2 1 3/4 0"), false},
		{of(nil, "5"), of(nil, "5"), true},
		{of(nil, "5"), of(api.Shape{}, "5"), true},
		{of(nil, "5"), of(nil, "6"), false},
		{of(nil, "5"), of(api.Shape{1}, "5"), false},
		// Tensors that are not valid are compared too.
		{api.Tensor{}, api.Tensor{Shape: api.Shape{}, Elems: []api.Rat{}}, true},
		{of(api.Shape{0}, ""), of(api.Shape{0}, ""), true},
		{of(api.Shape{0}, ""), of(api.Shape{-1}, ""), false},
		{of(api.Shape{0}, ""), api.Tensor{}, false},
		{of(api.Shape{-2, -2}, four), of(api.Shape{-2, -2}, four), true},
		{of(api.Shape{-2, -2}, four), of(api.Shape{-2, -2}, "1 -2 3/4 1"), false},
		{of(api.Shape{2}, "1"), of(api.Shape{2}, "1"), true},
		{of(api.Shape{2}, "1"), of(api.Shape{2}, "1 1"), false},
		{of(api.Shape{2}, "1 1"), of(api.Shape{2}, "1"), false},
		{of(api.Shape{2}, "1 1"), of(api.Shape{2}, "1 1 1"), false},
		{of(api.Shape{2}, "1 1 1"), of(api.Shape{2}, "1 1 2"), false},
		{of(nil, ""), of(nil, "0"), false},
		{of(api.Shape{2000}, "1 2"), of(api.Shape{2000}, "1 2"), true},
		{of(api.Shape{1, 1, 1, 1, 1}, "3"), of(api.Shape{1, 1, 1, 1, 1}, "3"), true},
		{of(api.Shape{1, 1, 1, 1, 1}, "3"), of(api.Shape{1, 1, 1, 1, 2}, "3"), false},
	} {
		if got := tensor.Same(c.a, c.b); got != c.same {
			t.Errorf("Same of %v and %v: %t", c.a, c.b, got)
		}
		if got := tensor.Same(c.b, c.a); got != c.same {
			t.Errorf("Same of %v and %v: %t", c.b, c.a, got)
		}
	}
}

func TestSameTakesNorms(t *testing.T) {
	texts := []string{"0", "1", "-1", "3/8", "-18446744073709551616/3"}
	for _, p := range texts {
		for _, q := range texts {
			for _, x := range forms(num(p)) {
				for _, y := range forms(num(q)) {
					a := api.Tensor{Shape: api.Shape{2}, Elems: []api.Rat{num("5"), x}}
					b := api.Tensor{Shape: api.Shape{2}, Elems: []api.Rat{num("5"), y}}
					if got := tensor.Same(a, b); got != (p == q) {
						t.Errorf("Same of %v and %v: %t", a, b, got)
					}
				}
			}
		}
	}
}

func TestBits(t *testing.T) {
	for _, c := range []struct {
		x    api.Tensor
		want int
	}{
		{api.Tensor{}, 0},
		{api.Tensor{Shape: api.Shape{2, 3}}, 0},
		{api.Tensor{Shape: api.Shape{0}, Elems: []api.Rat{}}, 0},
		{of(nil, "0"), 1},
		{of(nil, "1"), 1},
		{of(nil, "-1"), 1},
		{of(nil, "8"), 4},
		{of(nil, "-3/8"), 4},
		{of(nil, "1/18446744073709551616"), 65},
		{of(api.Shape{2, 2}, "1 2 3 4"), 3},
		{of(api.Shape{3}, "8 1 0"), 4},
		{of(api.Shape{3}, "1 -1/8 0"), 4},
		{of(api.Shape{3}, "1 0 8"), 4},
		// The numerator of one and the denominator of another don't add up.
		{of(api.Shape{2}, "7/2 2/7"), 3},
		// Tensors that are not valid have bits too.
		{of(nil, "1 2 3 16"), 5},
		{of(api.Shape{5}, "1 2 3 16"), 5},
		{of(api.Shape{-1}, "9"), 4},
		{of(api.Shape{1, 1, 1, 1, 1}, "9"), 4},
		{api.Tensor{Elems: zeros()}, 1},
		{api.Tensor{Elems: []api.Rat{{Num: api.Nat{top, top}}}}, 1},
		{api.Tensor{Elems: []api.Rat{{Num: api.Nat{top, top}, Den: api.Nat{top, top}}}}, 1},
		{api.Tensor{Elems: []api.Rat{{Num: api.Nat{6, 0, 0}, Den: api.Nat{4, 0}}, {}}}, 2},
	} {
		if got := tensor.Bits(c.x); got != c.want {
			t.Errorf("Bits of %v: %d, want %d", c.x, got, c.want)
		}
	}
}

func TestBitsTakesNorms(t *testing.T) {
	for text, want := range map[string]int{"0": 1, "3/8": 4, "-18446744073709551616/3": 65} {
		for _, x := range forms(num(text)) {
			a := api.Tensor{Shape: api.Shape{3}, Elems: []api.Rat{num("1"), x, num("-1")}}
			if got := tensor.Bits(a); got != want {
				t.Errorf("Bits of %v: %d, want %d", a, got, want)
			}
		}
	}
}

// P7.3

func TestDot(t *testing.T) {
	for _, c := range []struct {
		s          api.Shape
		a, b, want string
	}{
		{nil, "0", "0", "0"},
		{nil, "3", "-2/3", "-2"},
		{api.Shape{1}, "1/2", "1/3", "1/6"},
		{api.Shape{1, 1, 1, 1}, "-5", "-5", "25"},
		{api.Shape{2}, "1 2", "3 4", "11"},
		{api.Shape{2}, "1 2", "2 -1", "0"},
		{api.Shape{2, 2}, "1 2 3 4", "1 2 3 4", "30"},
		{api.Shape{2, 2}, "1 2 3 4", "0 -1 1 2", "9"},
		{api.Shape{3}, "1/2 1/3 1/6", "1 1 1", "1"},
		{api.Shape{3}, "1/2 1/3 1/6", "-1 -1 -1", "-1"},
		{api.Shape{5}, "1 10 100 1000 10000", "5 4 3 2 1", "12345"},
		{api.Shape{3, 1, 2}, "1 2 3 4 5 6", "1 0 0 0 0 0", "1"},
		{api.Shape{3, 1, 2}, "1 2 3 4 5 6", "0 0 0 0 0 1", "6"},
		{api.Shape{2}, "18446744073709551616 1", "18446744073709551616 -1", "340282366920938463463374607431768211455"},
	} {
		got, e := tensor.Dot(of(c.s, c.a), of(c.s, c.b))
		checkError(t, "Dot", e, api.OK)
		checkRat(t, "Dot of "+c.a+" and "+c.b, got, num(c.want))
	}
}

func TestDotOfAllCounts(t *testing.T) {
	for _, c := range counts {
		x := api.Tensor{Shape: c.s, Elems: counted(c.n)}
		got, e := tensor.Dot(x, x)
		checkError(t, "Dot", e, api.OK)
		sum := int64(c.n) * int64(c.n+1) * int64(2*c.n+1) / 6
		checkRat(t, "Dot", got, fromBig(new(big.Rat).SetInt64(sum)))
	}
}

// broken are tensors that may not be, with the error of May.
func broken() map[api.Errno][]api.Tensor {
	bad := api.Rat{Num: api.Nat{2}, Den: api.Nat{4}}
	return map[api.Errno][]api.Tensor{
		api.ErrLimit: {
			{Shape: api.Shape{1, 1, 1, 1, 1}, Elems: counted(1)},
			{Shape: api.Shape{1025}, Elems: make([]api.Rat, 1025)},
			{Shape: api.Shape{0, 1, 1, 1, 1}},
		},
		api.ErrShape: {
			{},
			{Shape: api.Shape{0}},
			{Shape: api.Shape{2, 2}, Elems: counted(3)},
			{Shape: api.Shape{2, 2}, Elems: counted(5)},
			{Shape: api.Shape{2, 2}, Elems: []api.Rat{bad}},
			{Shape: api.Shape{-2, -2}, Elems: counted(4)},
		},
		api.ErrRat: {
			{Elems: []api.Rat{{}}},
			{Shape: api.Shape{2, 2}, Elems: append(counted(3), bad)},
			{Shape: api.Shape{2, 2}, Elems: append([]api.Rat{bad}, counted(3)...)},
		},
	}
}

func TestDotErrors(t *testing.T) {
	check := func(a, b api.Tensor, want api.Errno) {
		t.Helper()
		got, e := tensor.Dot(a, b)
		checkError(t, "Dot", e, want)
		checkRat(t, "Dot with an error", got, api.Rat{})
	}
	for e, list := range broken() {
		for _, x := range list {
			checkError(t, "May", tensor.May(x), e)
			for _, c := range counts {
				valid := api.Tensor{Shape: c.s, Elems: counted(c.n)}
				check(x, valid, e)
				check(valid, x, e)
			}
			for _, others := range broken() {
				for _, y := range others {
					check(x, y, e)
				}
			}
		}
	}
}

func TestDotOfTwoShapes(t *testing.T) {
	for i, c := range counts {
		for j, d := range counts {
			a := api.Tensor{Shape: c.s, Elems: counted(c.n)}
			b := api.Tensor{Shape: d.s, Elems: counted(d.n)}
			want := api.ErrShape
			if i == j || len(c.s) == 0 && len(d.s) == 0 {
				want = api.OK
			}
			got, e := tensor.Dot(a, b)
			checkError(t, "Dot of two shapes", e, want)
			if want != api.OK {
				checkRat(t, "Dot of two shapes", got, api.Rat{})
			}
		}
	}
}

func TestExamples(t *testing.T) {
	x, e := tensor.Make(api.Shape{2, 2}, nums("1 2 3 4")...)
	checkError(t, "Make", e, api.OK)
	at, e := tensor.At(x, 1, 0)
	checkError(t, "At", e, api.OK)
	checkRat(t, "At", at, num("3"))
	dot, e := tensor.Dot(x, x)
	checkError(t, "Dot", e, api.OK)
	checkRat(t, "Dot", dot, num("30"))
	if n := tensor.Bits(x); n != 3 {
		t.Errorf("Bits: %d", n)
	}
	_, e = tensor.Make(api.Shape{2, 2}, nums("1 2 3")...)
	checkError(t, "Make of three numbers", e, api.ErrShape)
}
