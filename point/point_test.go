package point_test

import (
	"fmt"
	"math"
	"math/big"
	"slices"
	"strings"
	"testing"

	"fluxion/api"
	"fluxion/point"
	"fluxion/tensor"
)

func fromInt(b *big.Int) api.Nat {
	var a api.Nat
	for rest := new(big.Int).Set(b); rest.Sign() > 0; rest.Rsh(rest, 32) {
		a = append(a, uint32(rest.Uint64()))
	}
	return a
}

func fromBig(b *big.Rat) api.Rat {
	return api.Rat{Neg: b.Sign() < 0, Num: fromInt(new(big.Int).Abs(b.Num())), Den: fromInt(b.Denom())}
}

// num returns the valid representation of a number written as a text.
func num(text string) api.Rat {
	b, ok := new(big.Rat).SetString(text)
	if !ok {
		panic(text)
	}
	return fromBig(b)
}

// nums returns the numbers of a text, with spaces between them.
func nums(text string) []api.Rat {
	var list []api.Rat
	for _, word := range strings.Fields(text) {
		list = append(list, num(word))
	}
	return list
}

func of(s api.Shape, text string) api.Tensor {
	return api.Tensor{Shape: s, Elems: nums(text)}
}

// row returns a tensor of rank 1.
func row(text string) api.Tensor {
	l := nums(text)
	return api.Tensor{Shape: api.Shape{len(l)}, Elems: l}
}

// counted returns the numbers 1, 2 and so on.
func counted(n int) []api.Rat {
	var list []api.Rat
	for i := range n {
		list = append(list, api.Rat{Num: api.Nat{uint32(i) + 1}, Den: api.Nat{1}})
	}
	return list
}

// forms returns a valid number and others that count as it.
func forms(x api.Rat) []api.Rat {
	long := func(a api.Nat) api.Nat { return append(slices.Clone(a), 0, 0) }
	times := func(a api.Nat) api.Nat {
		if len(a) == 0 {
			return a
		}
		return append(api.Nat{0, 0}, a...)
	}
	list := []api.Rat{
		x,
		{Neg: x.Neg, Num: long(x.Num), Den: x.Den},
		{Neg: x.Neg, Num: x.Num, Den: long(x.Den)},
		{Neg: x.Neg, Num: times(x.Num), Den: times(x.Den)},
		{Neg: x.Neg, Num: long(times(x.Num)), Den: long(times(x.Den))},
	}
	if len(x.Num) > 0 {
		return list
	}
	return append(list, zeros()...)
}

// zeros are numbers that count as 0 and are not valid.
func zeros() []api.Rat {
	return []api.Rat{
		{},
		{Neg: true},
		{Den: api.Nat{1}, Neg: true},
		{Den: api.Nat{5}},
		{Num: api.Nat{0}, Den: api.Nat{1}},
		{Num: api.Nat{7}},
		{Num: api.Nat{7, 8}, Den: api.Nat{0, 0}, Neg: true},
	}
}

// unfit are numbers that are not valid.
func unfit() []api.Rat {
	return append(zeros(),
		api.Rat{Num: api.Nat{2}, Den: api.Nat{4}},
		api.Rat{Num: api.Nat{3}, Den: api.Nat{3}, Neg: true},
		api.Rat{Num: api.Nat{1, 0}, Den: api.Nat{1}},
		api.Rat{Num: api.Nat{1}, Den: api.Nat{1, 0}},
		api.Rat{Num: api.Nat{0, 3}, Den: api.Nat{0, 5}, Neg: true},
	)
}

func alike(x, y api.Rat) bool {
	return x.Neg == y.Neg && slices.Equal(x.Num, y.Num) && slices.Equal(x.Den, y.Den)
}

// checkTensor asks for the very limbs, so that an element that is not valid fails too.
func checkTensor(t *testing.T, call string, got, want api.Tensor) {
	t.Helper()
	if !slices.Equal(got.Shape, want.Shape) || !slices.EqualFunc(got.Elems, want.Elems, alike) {
		t.Errorf("%s: %v, want %v", call, got, want)
	}
}

func checkError(t *testing.T, call string, got, want api.Errno) {
	t.Helper()
	if got != want {
		t.Errorf("%s: error %d, want %d", call, got, want)
	}
}

func checkCall(t *testing.T, call string, got api.Tensor, e api.Errno, want api.Tensor) {
	t.Helper()
	checkError(t, call, e, api.OK)
	checkError(t, "May of "+call, tensor.May(got), api.OK)
	checkTensor(t, call, got, want)
}

func checkNone(t *testing.T, call string, got api.Tensor, e, want api.Errno) {
	t.Helper()
	checkError(t, call, e, want)
	if len(got.Shape) > 0 || len(got.Elems) > 0 {
		t.Errorf("%s: error %d, but the result is %v", call, e, got)
	}
}

// ofTwo and ofOne are the calls, by the number of their tensors.
type ofTwo struct {
	name string
	do   func(x, y api.Tensor) (api.Tensor, api.Errno)
}

type ofOne struct {
	name string
	do   func(x api.Tensor) (api.Tensor, api.Errno)
}

func callsOfTwo() []ofTwo {
	return []ofTwo{{"Add", point.Add}, {"Sub", point.Sub}, {"Mul", point.Mul}, {"Div", point.Div}}
}

func pow(n int) ofOne {
	return ofOne{fmt.Sprint("Pow ", n), func(x api.Tensor) (api.Tensor, api.Errno) { return point.Pow(x, n) }}
}

func scale(r api.Rat) ofOne {
	return ofOne{fmt.Sprint("Scale ", r), func(x api.Tensor) (api.Tensor, api.Errno) { return point.Scale(x, r) }}
}

func callsOfOne() []ofOne {
	list := []ofOne{{"Neg", point.Neg}, {"Relu", point.Relu}, {"Step", point.Step}}
	for _, n := range []int{0, 1, 2, 3, 15, api.MaxPow} {
		list = append(list, pow(n))
	}
	for _, r := range append(unfit(), nums("0 1 -1 2/3 -18446744073709551616/5")...) {
		list = append(list, scale(r))
	}
	return list
}

// shapes are valid, with their counts.
var shapes = []struct {
	s api.Shape
	n int
}{
	{nil, 1},
	{api.Shape{}, 1},
	{api.Shape{1}, 1},
	{api.Shape{1, 1, 1, 1}, 1},
	{api.Shape{2}, 2},
	{api.Shape{2, 3}, 6},
	{api.Shape{3, 2}, 6},
	{api.Shape{3, 1, 2}, 6},
	{api.Shape{2, 3, 4, 1}, 24},
	{api.Shape{1024}, 1024},
	{api.Shape{4, 4, 8, 8}, 1024},
}

// P8.1

func TestOfTwo(t *testing.T) {
	long, square := "18446744073709551616", "340282366920938463463374607431768211456"
	for _, c := range []struct {
		call       func(x, y api.Tensor) (api.Tensor, api.Errno)
		name       string
		x, y, want string
	}{
		{point.Add, "Add", "1 -2 0", "1/2 2 3", "3/2 0 3"},
		{point.Sub, "Sub", "1 -2 0", "1/2 2 3", "1/2 -4 -3"},
		{point.Mul, "Mul", "1 -2 0", "1/2 2 3", "1/2 -4 0"},
		{point.Div, "Div", "1 -2 0", "1/2 2 3", "2 -1 0"},
		{point.Add, "Add", "1/2 1/2 -1/3 0 -5", "1/3 -1/2 -1/6 0 0", "5/6 0 -1/2 0 -5"},
		{point.Sub, "Sub", "1/2 1/2 -1/3 0 0", "1/3 1/2 -1/6 0 -7", "1/6 0 -1/6 0 7"},
		{point.Mul, "Mul", "1/2 2/3 -1/3 0 -5", "1/3 3/2 -1/6 -2 0", "1/6 1 1/18 0 0"},
		{point.Div, "Div", "1/2 2/3 -1/3 0 -5", "1/3 2/3 -1/6 -2 -1/5", "3/2 1 2 0 25"},
		{point.Add, "Add", long + " -1", "-1 1", "18446744073709551615 0"},
		{point.Sub, "Sub", "0 4294967295", "1 -1", "-1 4294967296"},
		{point.Mul, "Mul", long + " -" + long, long + " 1/" + long, square + " -1"},
		{point.Div, "Div", "1 -" + square, long + " " + long, "1/" + long + " -" + long},
	} {
		got, e := c.call(row(c.x), row(c.y))
		checkCall(t, c.name+" of "+c.x+" and "+c.y, got, e, row(c.want))
	}
}

// The elements stay at their indices, whatever the shape.
func TestOfTwoInAllShapes(t *testing.T) {
	for _, c := range shapes {
		x := api.Tensor{Shape: c.s, Elems: counted(c.n)}
		y := api.Tensor{Shape: c.s, Elems: counted(c.n)}
		slices.Reverse(y.Elems)
		for i, call := range callsOfTwo() {
			want := api.Tensor{Shape: c.s}
			for k := range int64(c.n) {
				a, b := big.NewRat(k+1, 1), big.NewRat(int64(c.n)-k, 1)
				want.Elems = append(want.Elems, fromBig(bigOfTwo()[i](a, b)))
			}
			got, e := call.do(x, y)
			checkCall(t, call.name, got, e, want)
		}
	}
}

// bigOfTwo are what callsOfTwo do, in the same order.
func bigOfTwo() []func(a, b *big.Rat) *big.Rat {
	return []func(a, b *big.Rat) *big.Rat{
		func(a, b *big.Rat) *big.Rat { return new(big.Rat).Add(a, b) },
		func(a, b *big.Rat) *big.Rat { return new(big.Rat).Sub(a, b) },
		func(a, b *big.Rat) *big.Rat { return new(big.Rat).Mul(a, b) },
		func(a, b *big.Rat) *big.Rat { return new(big.Rat).Quo(a, b) },
	}
}

func TestOneTensorTwice(t *testing.T) {
	x := of(api.Shape{2, 2}, "1 -2/3 5 -1")
	for i, want := range []string{"2 -4/3 10 -2", "0 0 0 0", "1 4/9 25 1", "1 1 1 1"} {
		call := callsOfTwo()[i]
		got, e := call.do(x, x)
		checkCall(t, call.name+" of one twice", got, e, of(api.Shape{2, 2}, want))
	}
	zero := of(nil, "0")
	got, e := point.Div(zero, zero)
	checkNone(t, "Div of 0 and 0", got, e, api.ErrZero)
}

func TestRankZero(t *testing.T) {
	for _, empty := range []api.Shape{nil, {}} {
		x, y := of(empty, "-3/2"), of(nil, "1/6")
		for i, want := range []string{"-4/3", "-5/3", "-1/4", "-9"} {
			call := callsOfTwo()[i]
			got, e := call.do(x, y)
			checkCall(t, call.name, got, e, of(nil, want))
		}
		for want, call := range map[string]ofOne{
			"3/2":  {"Neg", point.Neg},
			"0":    {"Relu", point.Relu},
			"9/4":  pow(2),
			"-1/2": scale(num("1/3")),
		} {
			got, e := call.do(x)
			checkCall(t, call.name, got, e, of(nil, want))
		}
		got, e := point.Step(y)
		checkCall(t, "Step", got, e, of(nil, "1"))
	}
}

func TestDivByZero(t *testing.T) {
	for _, y := range []string{"0 1 2 3", "1 0 2 3", "1 2 3 0", "0 0 0 0"} {
		for _, x := range []string{"1 2 3 4", "0 0 0 0", "-1/2 0 5 0"} {
			got, e := point.Div(row(x), row(y))
			checkNone(t, "Div of "+x+" and "+y, got, e, api.ErrZero)
		}
	}
	for _, c := range shapes {
		x := api.Tensor{Shape: c.s, Elems: counted(c.n)}
		for _, i := range []int{0, c.n / 2, c.n - 1} {
			y := api.Tensor{Shape: c.s, Elems: counted(c.n)}
			y.Elems[i] = num("0")
			got, e := point.Div(x, y)
			checkNone(t, "Div", got, e, api.ErrZero)
			got, e = point.Div(y, x)
			checkError(t, "Div of noughts", e, api.OK)
			if !alike(got.Elems[i], num("0")) {
				t.Errorf("Div of 0: %v", got.Elems[i])
			}
		}
	}
}

// P8.2

func TestOfOne(t *testing.T) {
	third := of(nil, "-1/3").Elems[0]
	for _, c := range []struct {
		call    ofOne
		x, want string
	}{
		{ofOne{"Neg", point.Neg}, "1 -2 0 -1/2 3/4", "-1 2 0 1/2 -3/4"},
		{ofOne{"Relu", point.Relu}, "1 -2 0 -1/2 3/4", "1 0 0 0 3/4"},
		{ofOne{"Step", point.Step}, "1 -2 0 -1/2 3/4", "1 0 0 0 1"},
		{pow(0), "1 -2 0 -1/2 3/4", "1 1 1 1 1"},
		{pow(1), "1 -2 0 -1/2 3/4", "1 -2 0 -1/2 3/4"},
		{pow(2), "1 -2 0 -1/2 3/4", "1 4 0 1/4 9/16"},
		{pow(3), "1 -2 0 -1/2 3/4", "1 -8 0 -1/8 27/64"},
		{pow(15), "-1 -2 0 1/2 3", "-1 -32768 0 1/32768 14348907"},
		{pow(api.MaxPow), "-1 -2 0 1/2 3", "1 65536 0 1/65536 43046721"},
		{pow(api.MaxPow), "-16 1/256", "18446744073709551616 1/340282366920938463463374607431768211456"},
		{scale(num("0")), "1 -2 0 -1/2 3/4", "0 0 0 0 0"},
		{scale(num("1")), "1 -2 0 -1/2 3/4", "1 -2 0 -1/2 3/4"},
		{scale(num("-1")), "1 -2 0 -1/2 3/4", "-1 2 0 1/2 -3/4"},
		{scale(third), "1 -2 0 -1/2 3/4", "-1/3 2/3 0 1/6 -1/4"},
		{scale(num("18446744073709551616")), "1/18446744073709551616 -18446744073709551616", "1 -340282366920938463463374607431768211456"},
	} {
		got, e := c.call.do(row(c.x))
		checkCall(t, c.call.name+" of "+c.x, got, e, row(c.want))
	}
}

// The next number to 0, on either side, is not 0.
func TestNextToZero(t *testing.T) {
	x := row("1/18446744073709551616 -1/18446744073709551616 0")
	got, e := point.Relu(x)
	checkCall(t, "Relu", got, e, row("1/18446744073709551616 0 0"))
	got, e = point.Step(x)
	checkCall(t, "Step", got, e, row("1 0 0"))
	got, e = point.Neg(x)
	checkCall(t, "Neg", got, e, row("-1/18446744073709551616 1/18446744073709551616 0"))
}

func TestOfOneInAllShapes(t *testing.T) {
	for _, c := range shapes {
		x := api.Tensor{Shape: c.s, Elems: counted(c.n)}
		double, square, minus := api.Tensor{Shape: c.s}, api.Tensor{Shape: c.s}, api.Tensor{Shape: c.s}
		for k := range int64(c.n) {
			double.Elems = append(double.Elems, fromBig(big.NewRat(2*(k+1), 1)))
			square.Elems = append(square.Elems, fromBig(big.NewRat((k+1)*(k+1), 1)))
			minus.Elems = append(minus.Elems, fromBig(big.NewRat(-(k+1), 1)))
		}
		ones := api.Tensor{Shape: c.s, Elems: slices.Repeat(nums("1"), c.n)}
		for _, p := range []struct {
			call ofOne
			want api.Tensor
		}{
			{ofOne{"Neg", point.Neg}, minus},
			{ofOne{"Relu", point.Relu}, x},
			{ofOne{"Step", point.Step}, ones},
			{pow(2), square},
			{pow(0), ones},
			{scale(num("2")), double},
		} {
			got, e := p.call.do(x)
			checkCall(t, p.call.name, got, e, p.want)
		}
	}
}

func TestScaleTakesNorms(t *testing.T) {
	x := of(api.Shape{2, 2}, "1 -2 0 3/4")
	for by, want := range map[string]string{
		"0":                       "0 0 0 0",
		"1":                       "1 -2 0 3/4",
		"-2/3":                    "-2/3 4/3 0 -1/2",
		"-18446744073709551616/3": "-18446744073709551616/3 36893488147419103232/3 0 -4611686018427387904",
	} {
		for _, r := range forms(num(by)) {
			got, e := point.Scale(x, r)
			checkCall(t, fmt.Sprint("Scale by ", r), got, e, of(api.Shape{2, 2}, want))
		}
	}
	got, e := point.Scale(x, api.Rat{Neg: true, Num: api.Nat{6}, Den: api.Nat{4}})
	checkCall(t, "Scale by -6/4", got, e, of(api.Shape{2, 2}, "-3/2 3 0 -9/8"))
}

func TestPowOfOtherExponents(t *testing.T) {
	x := row("1 -2 0")
	for _, n := range []int{-1, -2, api.MaxPow + 1, -api.MaxPow, 2 * api.MaxPow, 1 << 32, 1<<32 + 2, math.MinInt, math.MaxInt} {
		got, e := point.Pow(x, n)
		checkNone(t, fmt.Sprint("Pow ", n), got, e, api.ErrAttr)
	}
	for n := range api.MaxPow + 1 {
		_, e := point.Pow(x, n)
		checkError(t, fmt.Sprint("Pow ", n), e, api.OK)
	}
}

// broken are tensors that may not be, with the error of May.
func broken() map[api.Errno][]api.Tensor {
	bad := unfit()
	odd := []api.Tensor{
		{Elems: bad[:1]},
		{Shape: api.Shape{2, 2}, Elems: append(counted(3), bad[len(bad)-1])},
		{Shape: api.Shape{len(bad)}, Elems: bad},
	}
	for _, r := range bad {
		odd = append(odd, api.Tensor{Shape: api.Shape{2}, Elems: append(counted(1), r)}, api.Tensor{Shape: api.Shape{2}, Elems: []api.Rat{r, num("1")}})
	}
	return map[api.Errno][]api.Tensor{
		api.ErrRat: odd,
		api.ErrLimit: {
			{Shape: api.Shape{1, 1, 1, 1, 1}, Elems: counted(1)},
			{Shape: api.Shape{1025}, Elems: counted(1025)},
			{Shape: api.Shape{0, 1, 1, 1, 1}},
			{Shape: api.Shape{math.MaxInt, math.MaxInt}, Elems: bad},
		},
		api.ErrShape: {
			{},
			{Shape: api.Shape{0}},
			{Shape: api.Shape{-2, -2}, Elems: counted(4)},
			{Shape: api.Shape{2, 2}},
			{Shape: api.Shape{2, 2}, Elems: counted(3)},
			{Shape: api.Shape{2, 2}, Elems: counted(5)},
			{Shape: api.Shape{2, 2}, Elems: bad[:1]},
		},
	}
}

func TestErrorsOfOne(t *testing.T) {
	// What is wrong with the tensor goes before the exponent.
	calls := append(callsOfOne(), pow(-1), pow(api.MaxPow+1), pow(math.MinInt))
	for want, list := range broken() {
		for _, x := range list {
			checkError(t, "May", tensor.May(x), want)
			for _, call := range calls {
				got, e := call.do(x)
				checkNone(t, call.name, got, e, want)
			}
		}
	}
}

func TestErrorsOfTwo(t *testing.T) {
	// The noughts are divided by in Div, and the shapes of the others differ from most that are
	// broken: both goes after what is wrong with either tensor.
	valid := []api.Tensor{of(nil, "1"), of(api.Shape{2}, "0 0"), of(api.Shape{2, 2}, "0 1 2 3"), of(api.Shape{3}, "1 0 2")}
	for want, list := range broken() {
		for _, x := range list {
			for _, call := range callsOfTwo() {
				for _, y := range valid {
					got, e := call.do(x, y)
					checkNone(t, call.name+" of a broken first one", got, e, want)
					got, e = call.do(y, x)
					checkNone(t, call.name+" of a broken second one", got, e, want)
				}
				for _, others := range broken() {
					for _, y := range others {
						got, e := call.do(x, y)
						checkNone(t, call.name+" of two broken ones", got, e, want)
					}
				}
			}
		}
	}
}

func TestTwoShapes(t *testing.T) {
	for i, c := range shapes {
		for j, d := range shapes {
			if i == j || len(c.s) == 0 && len(d.s) == 0 {
				continue
			}
			x := api.Tensor{Shape: c.s, Elems: counted(c.n)}
			y := api.Tensor{Shape: d.s, Elems: counted(d.n)}
			zero := api.Tensor{Shape: d.s, Elems: slices.Repeat(nums("0"), d.n)}
			for _, call := range callsOfTwo() {
				got, e := call.do(x, y)
				checkNone(t, call.name+" of two shapes", got, e, api.ErrShape)
				got, e = call.do(x, zero)
				checkNone(t, call.name+" of two shapes and noughts", got, e, api.ErrShape)
			}
		}
	}
}

func TestExamples(t *testing.T) {
	x, y := row("1 -2 0"), row("1/2 2 3")
	got, e := point.Add(x, y)
	checkCall(t, "Add", got, e, row("3/2 0 3"))
	got, e = point.Div(x, y)
	checkCall(t, "Div", got, e, row("2 -1 0"))
	got, e = point.Relu(x)
	checkCall(t, "Relu", got, e, row("1 0 0"))
	got, e = point.Step(x)
	checkCall(t, "Step", got, e, row("1 0 0"))
	got, e = point.Pow(x, 2)
	checkCall(t, "Pow", got, e, row("1 4 0"))
	got, e = point.Div(y, x)
	checkNone(t, "Div", got, e, api.ErrZero)
}
