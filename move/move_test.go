package move_test

import (
	"fmt"
	"math"
	"math/big"
	"slices"
	"strings"
	"testing"

	"fluxion/api"
	"fluxion/move"
	"fluxion/tensor"
)

func fromInt(b *big.Int) api.Nat {
	var a api.Nat
	for rest := new(big.Int).Set(b); rest.Sign() > 0; rest.Rsh(rest, 32) {
		a = append(a, uint32(rest.Uint64()))
	}
	return a
}

// num returns the valid representation of a number written as a text.
func num(text string) api.Rat {
	b, ok := new(big.Rat).SetString(text)
	if !ok {
		panic(text)
	}
	return api.Rat{Neg: b.Sign() < 0, Num: fromInt(new(big.Int).Abs(b.Num())), Den: fromInt(b.Denom())}
}

// of returns the tensor with the numbers of a text, with spaces between them.
func of(s api.Shape, text string) api.Tensor {
	x := api.Tensor{Shape: s}
	for _, word := range strings.Fields(text) {
		x.Elems = append(x.Elems, num(word))
	}
	return x
}

// numbers returns the text of the numbers from low to high.
func numbers(low, high int) string {
	text := ""
	for n := low; n <= high; n++ {
		text += fmt.Sprint(n, " ")
	}
	return text
}

// counted returns the numbers 1, 2 and so on.
func counted(n int) []api.Rat {
	var list []api.Rat
	for i := range n {
		list = append(list, api.Rat{Num: api.Nat{uint32(i) + 1}, Den: api.Nat{1}})
	}
	return list
}

// count is given a valid shape.
func count(s api.Shape) int {
	n := 1
	for _, d := range s {
		n *= d
	}
	return n
}

// numbered returns the tensor of a shape with the elements 1, 2 and so on.
func numbered(s ...int) api.Tensor {
	return api.Tensor{Shape: s, Elems: counted(count(s))}
}

// unfit are numbers that are not valid.
func unfit() []api.Rat {
	return []api.Rat{
		{},
		{Neg: true},
		{Den: api.Nat{1}, Neg: true},
		{Den: api.Nat{5}},
		{Num: api.Nat{0}, Den: api.Nat{1}},
		{Num: api.Nat{7}},
		{Num: api.Nat{2}, Den: api.Nat{4}},
		{Num: api.Nat{3}, Den: api.Nat{3}, Neg: true},
		{Num: api.Nat{1, 0}, Den: api.Nat{1}},
		{Num: api.Nat{1}, Den: api.Nat{1, 0}},
		{Num: api.Nat{0, 3}, Den: api.Nat{0, 5}, Neg: true},
	}
}

func alike(x, y api.Rat) bool {
	return x.Neg == y.Neg && slices.Equal(x.Num, y.Num) && slices.Equal(x.Den, y.Den)
}

// checkTensor asks for the very limbs, so that an element that is not valid fails too.
func checkTensor(t *testing.T, call string, got, want api.Tensor) {
	t.Helper()
	if !slices.Equal(got.Shape, want.Shape) || !slices.EqualFunc(got.Elems, want.Elems, alike) {
		t.Errorf("%s: %v, want %v", call, got, want)
	}
}

func checkError(t *testing.T, call string, got, want api.Errno) {
	t.Helper()
	if got != want {
		t.Errorf("%s: error %d, want %d", call, got, want)
	}
}

func checkCall(t *testing.T, call string, got api.Tensor, e api.Errno, want api.Tensor) {
	t.Helper()
	checkError(t, call, e, api.OK)
	checkError(t, "May of "+call, tensor.May(got), api.OK)
	checkTensor(t, call, got, want)
}

func checkNone(t *testing.T, call string, got api.Tensor, e, want api.Errno) {
	t.Helper()
	checkError(t, call, e, want)
	if len(got.Shape) > 0 || len(got.Elems) > 0 {
		t.Errorf("%s: error %d, but the result is %v", call, e, got)
	}
}

// call is a call for one tensor.
type call struct {
	name string
	do   func(x api.Tensor) (api.Tensor, api.Errno)
}

func transpose(p ...int) call {
	return call{fmt.Sprint("Transpose by ", p), func(x api.Tensor) (api.Tensor, api.Errno) { return move.Transpose(x, p) }}
}

func reshape(s ...int) call {
	return call{fmt.Sprint("Reshape to ", s), func(x api.Tensor) (api.Tensor, api.Errno) { return move.Reshape(x, s) }}
}

func broadcast(s ...int) call {
	return call{fmt.Sprint("Broadcast to ", s), func(x api.Tensor) (api.Tensor, api.Errno) { return move.Broadcast(x, s) }}
}

func slice(cuts ...int) call {
	return call{fmt.Sprint("Slice by ", cuts), func(x api.Tensor) (api.Tensor, api.Errno) { return move.Slice(x, cuts) }}
}

func pad(pads ...int) call {
	return call{fmt.Sprint("Pad by ", pads), func(x api.Tensor) (api.Tensor, api.Errno) { return move.Pad(x, pads) }}
}

func shapes(xs []api.Tensor) []api.Shape {
	var list []api.Shape
	for _, x := range xs {
		list = append(list, x.Shape)
	}
	return list
}

// concat joins a tensor with others behind it.
func concat(axis int, others ...api.Tensor) call {
	return call{fmt.Sprint("Concat along ", axis, " with ", shapes(others)), func(x api.Tensor) (api.Tensor, api.Errno) {
		return move.Concat(axis, append([]api.Tensor{x}, others...)...)
	}}
}

// moved is a call with the tensor that it is given and the one that it returns.
type moved struct {
	call call
	x    api.Tensor
	want api.Tensor
}

func checkMoved(t *testing.T, list []moved) {
	t.Helper()
	for _, m := range list {
		got, e := m.call.do(m.x)
		checkCall(t, fmt.Sprint(m.call.name, " of ", m.x.Shape), got, e, m.want)
	}
}

func checkRefused(t *testing.T, x api.Tensor, want api.Errno, calls ...call) {
	t.Helper()
	for _, c := range calls {
		got, e := c.do(x)
		checkNone(t, fmt.Sprint(c.name, " of ", x.Shape), got, e, want)
	}
}

// P9.1

func TestTranspose(t *testing.T) {
	x, y := numbered(2, 3), numbered(2, 3, 2)
	checkMoved(t, []moved{
		{transpose(1, 0), x, of(api.Shape{3, 2}, "1 4 2 5 3 6")},
		{transpose(0, 1), x, x},
		{transpose(), of(nil, "-3/2"), of(nil, "-3/2")},
		{transpose(), of(api.Shape{}, "7"), of(nil, "7")},
		{transpose(0), numbered(5), numbered(5)},
		{transpose(1, 2, 0), y, of(api.Shape{3, 2, 2}, "1 7 2 8 3 9 4 10 5 11 6 12")},
		{transpose(2, 0, 1), y, of(api.Shape{2, 2, 3}, "1 3 5 7 9 11 2 4 6 8 10 12")},
		{transpose(0, 2, 1), y, of(api.Shape{2, 2, 3}, "1 3 5 2 4 6 7 9 11 8 10 12")},
		{transpose(1, 0, 2), y, of(api.Shape{3, 2, 2}, "1 2 7 8 3 4 9 10 5 6 11 12")},
		{transpose(2, 1, 0), y, of(api.Shape{2, 3, 2}, "1 7 3 9 5 11 2 8 4 10 6 12")},
		{transpose(0, 1, 2), y, y},
		{transpose(2, 0, 1), numbered(2, 1, 3), of(api.Shape{3, 2, 1}, "1 4 2 5 3 6")},
		{transpose(3, 2, 1, 0), numbered(1, 1, 1, 1), numbered(1, 1, 1, 1)},
		{transpose(1, 0), numbered(1, 1024), numbered(1024, 1)},
		{transpose(1, 0), of(api.Shape{1, 2}, "-1/3 18446744073709551616/5"), of(api.Shape{2, 1}, "-1/3 18446744073709551616/5")},
	})
}

func TestTransposeByNoPermutation(t *testing.T) {
	checkRefused(t, numbered(2, 3), api.ErrAttr, transpose(), transpose(0), transpose(1), transpose(0, 1, 2),
		transpose(1, 0, 0), transpose(0, 0), transpose(1, 1), transpose(0, 2), transpose(2, 1), transpose(-1, 0),
		transpose(1, -1), transpose(-1, -2), transpose(math.MaxInt, 0), transpose(1, math.MinInt))
	checkRefused(t, of(nil, "1"), api.ErrAttr, transpose(0), transpose(-1), transpose(0, 1))
	checkRefused(t, numbered(1), api.ErrAttr, transpose(), transpose(1), transpose(-1), transpose(0, 0), transpose(0, 1))
	checkRefused(t, numbered(2, 2, 2, 2), api.ErrAttr, transpose(0, 1, 2), transpose(0, 1, 2, 2), transpose(3, 2, 1, 4), transpose(0, 1, 2, 3, 4))
}

func TestReshape(t *testing.T) {
	x := of(api.Shape{2, 3}, "1 -2 3/4 0 5 -6/7")
	for _, s := range []api.Shape{{2, 3}, {3, 2}, {6}, {1, 6}, {6, 1}, {3, 2, 1}, {1, 2, 1, 3}, {1, 1, 1, 6}} {
		checkMoved(t, []moved{{reshape(s...), x, api.Tensor{Shape: s, Elems: x.Elems}}})
	}
	one := of(nil, "-5/2")
	for _, s := range []api.Shape{nil, {}, {1}, {1, 1}, {1, 1, 1, 1}} {
		y := api.Tensor{Shape: s, Elems: one.Elems}
		checkMoved(t, []moved{{reshape(s...), one, y}, {reshape(), y, one}})
	}
	checkMoved(t, []moved{
		{reshape(4, 4, 8, 8), numbered(1024), numbered(4, 4, 8, 8)},
		{reshape(1024), numbered(32, 32), numbered(1024)},
	})
}

func TestReshapeToAnother(t *testing.T) {
	x := numbered(2, 3)
	checkRefused(t, x, api.ErrShape, reshape(), reshape(1), reshape(5), reshape(7), reshape(2, 2), reshape(2, 3, 2), reshape(3), reshape(1024),
		reshape(0), reshape(6, 0), reshape(-2, -3), reshape(-6), reshape(2000, 0), reshape(0, math.MaxInt))
	// The limits of a shape go before its count.
	checkRefused(t, x, api.ErrLimit, reshape(2000), reshape(1025), reshape(1, 1, 1, 1, 6), reshape(0, 1, 1, 1, 1), reshape(math.MaxInt, math.MaxInt), reshape(1<<32, 1<<32))
	checkRefused(t, of(nil, "1"), api.ErrShape, reshape(2), reshape(0), reshape(1, -1))
	checkRefused(t, numbered(1024), api.ErrShape, reshape(1023), reshape(512), reshape(31, 33))
}

func TestBroadcast(t *testing.T) {
	x := of(api.Shape{2, 1}, "7 8")
	checkMoved(t, []moved{
		{broadcast(2, 2, 3), x, of(api.Shape{2, 2, 3}, "7 7 7 8 8 8 7 7 7 8 8 8")},
		{broadcast(2, 1), x, x},
		{broadcast(2, 3), x, of(api.Shape{2, 3}, "7 7 7 8 8 8")},
		{broadcast(1, 1, 2, 1), x, of(api.Shape{1, 1, 2, 1}, "7 8")},
		{broadcast(2, 3), numbered(2, 3), numbered(2, 3)},
		{broadcast(2, 3), numbered(3), of(api.Shape{2, 3}, "1 2 3 1 2 3")},
		{broadcast(2, 3), numbered(1, 3), of(api.Shape{2, 3}, "1 2 3 1 2 3")},
		{broadcast(1, 1, 3), numbered(3), numbered(1, 1, 3)},
		{broadcast(2, 3, 2), numbered(2, 1, 2), of(api.Shape{2, 3, 2}, "1 2 1 2 1 2 3 4 3 4 3 4")},
		{broadcast(2, 2, 2), numbered(2, 1, 1), of(api.Shape{2, 2, 2}, "1 1 1 1 2 2 2 2")},
		{broadcast(4), numbered(1), of(api.Shape{4}, "1 1 1 1")},
		{broadcast(), of(nil, "-1/2"), of(nil, "-1/2")},
		{broadcast(1, 1, 1, 1), of(nil, "-1/2"), of(api.Shape{1, 1, 1, 1}, "-1/2")},
		{broadcast(3), of(api.Shape{}, "-1/2"), of(api.Shape{3}, "-1/2 -1/2 -1/2")},
		{broadcast(1024), of(nil, "3"), of(api.Shape{1024}, strings.Repeat("3 ", 1024))},
		{broadcast(4, 4, 8, 8), of(api.Shape{1, 1}, "3"), of(api.Shape{4, 4, 8, 8}, strings.Repeat("3 ", 1024))},
	})
}

func TestBroadcastToAnother(t *testing.T) {
	checkRefused(t, numbered(2, 3), api.ErrShape, broadcast(), broadcast(3), broadcast(2), broadcast(6), broadcast(1), broadcast(3, 2),
		broadcast(2, 4), broadcast(4, 3), broadcast(1, 3), broadcast(2, 1), broadcast(2, 3, 1), broadcast(3, 2, 2), broadcast(2, 6),
		broadcast(0, 2, 3), broadcast(2, 0), broadcast(-2, -3), broadcast(2000, 0, 2, 3))
	// The limits of a shape go before whether it fits.
	checkRefused(t, numbered(2, 3), api.ErrLimit, broadcast(2, 2, 2, 2, 3), broadcast(171, 2, 3), broadcast(1, 1, 1, 2, 3),
		broadcast(2000), broadcast(1025), broadcast(math.MaxInt, 2, 3), broadcast(1<<32, 1<<32, 2, 3))
	checkRefused(t, numbered(1, 1), api.ErrShape, broadcast(1), broadcast(), broadcast(0, 1))
	checkRefused(t, of(nil, "1"), api.ErrLimit, broadcast(1025), broadcast(1, 1, 1, 1, 1))
	checkRefused(t, of(nil, "1"), api.ErrShape, broadcast(0), broadcast(2, -1))
	_, e := move.Broadcast(numbered(2, 3), api.Shape{170, 2, 3})
	checkError(t, "Broadcast to 1020 elements", e, api.OK)
}

// P9.2

func TestSlice(t *testing.T) {
	x := numbered(2, 3)
	checkMoved(t, []moved{
		{slice(0, 1, 1, 3), x, of(api.Shape{1, 2}, "2 3")},
		{slice(1, 2, 0, 2), x, of(api.Shape{1, 2}, "4 5")},
		{slice(0, 2, 0, 3), x, x},
		{slice(0, 2, 1, 2), x, of(api.Shape{2, 1}, "2 5")},
		{slice(0, 2, 2, 3), x, of(api.Shape{2, 1}, "3 6")},
		{slice(0, 1, 0, 1), x, of(api.Shape{1, 1}, "1")},
		{slice(1, 2, 2, 3), x, of(api.Shape{1, 1}, "6")},
		{slice(), of(nil, "-1/2"), of(nil, "-1/2")},
		{slice(), of(api.Shape{}, "4"), of(nil, "4")},
		{slice(0, 1), numbered(1), numbered(1)},
		{slice(2, 4), of(api.Shape{5}, "1 -2 3/7 0 5"), of(api.Shape{2}, "3/7 0")},
		{slice(0, 1, 0, 1, 0, 1, 0, 1), numbered(1, 1, 1, 1), numbered(1, 1, 1, 1)},
		{slice(1, 2, 0, 1, 1, 3, 0, 2), numbered(2, 1, 3, 2), of(api.Shape{1, 1, 2, 2}, "9 10 11 12")},
		{slice(0, 2, 1, 3, 1, 2), numbered(2, 3, 2), of(api.Shape{2, 2, 1}, "4 6 10 12")},
		{slice(0, 1024), numbered(1024), numbered(1024)},
		{slice(1023, 1024), numbered(1024), of(api.Shape{1}, "1024")},
	})
}

func TestSliceByNoPairs(t *testing.T) {
	x := numbered(2, 3)
	checkRefused(t, x, api.ErrAttr, slice(), slice(0), slice(0, 1), slice(0, 1, 0), slice(0, 2, 0, 3, 0), slice(0, 2, 0, 3, 0, 1),
		slice(-1, 1, 0, 1), slice(0, 1, -1, 1), slice(math.MinInt, 1, 0, 1), slice(-2, -1, 0, 1),
		slice(0, 0, 0, 1), slice(0, 1, 2, 2), slice(1, 0, 0, 1), slice(0, 1, 3, 1), slice(0, -1, 0, 1), slice(0, 1, 0, math.MinInt),
		slice(2, 2, 0, 1), slice(5, 4, 0, 1), slice(math.MaxInt, math.MaxInt, 0, 1))
	// What is no pair goes before a pair that leads beyond its dimension, in whatever order they are.
	checkRefused(t, x, api.ErrAttr, slice(0, 3, 0, 0), slice(0, 3, -1, 1), slice(0, 0, 0, 4), slice(-1, 1, 0, 4), slice(-1, 3, 0, 1),
		slice(0, 1, -1, 4), slice(0, 3, 0), slice(0, 3), slice(0, 3, 0, 4, 1, 1))
	checkRefused(t, x, api.ErrShape, slice(0, 3, 0, 1), slice(0, 1, 0, 4), slice(0, 3, 0, 4), slice(2, 3, 0, 1), slice(0, 1, 3, 4),
		slice(0, math.MaxInt, 0, 3), slice(0, 2, math.MaxInt-1, math.MaxInt), slice(1, 3, 2, 3))
	checkRefused(t, of(nil, "1"), api.ErrAttr, slice(0), slice(0, 1), slice(0, 2), slice(-1, 0))
	checkRefused(t, numbered(1), api.ErrAttr, slice(), slice(0), slice(1, 1), slice(0, 0))
	checkRefused(t, numbered(1), api.ErrShape, slice(0, 2), slice(1, 2))
}

func TestPad(t *testing.T) {
	checkMoved(t, []moved{
		{pad(1, 0, 0, 1), of(api.Shape{1, 2}, "4 5"), of(api.Shape{2, 3}, "0 0 0 4 5 0")},
		{pad(0, 0, 1, 0), of(api.Shape{1, 2}, "2 3"), of(api.Shape{1, 3}, "0 2 3")},
		{pad(0, 1, 2, 0), of(api.Shape{1, 2}, "2 3"), of(api.Shape{2, 4}, "0 0 2 3 0 0 0 0")},
		{pad(0, 0, 0, 0), numbered(2, 3), numbered(2, 3)},
		{pad(0, 0, 1, 1), numbered(2, 2), of(api.Shape{2, 4}, "0 1 2 0 0 3 4 0")},
		{pad(1, 1, 1, 1), of(api.Shape{1, 1}, "-5/3"), of(api.Shape{3, 3}, "0 0 0 0 -5/3 0 0 0 0")},
		{pad(), of(nil, "-1/2"), of(nil, "-1/2")},
		{pad(), of(api.Shape{}, "4"), of(nil, "4")},
		{pad(2, 1), of(api.Shape{1}, "7"), of(api.Shape{4}, "0 0 7 0")},
		{pad(0, 0, 1, 0, 0, 1), of(api.Shape{2, 1, 1}, "7 8"), of(api.Shape{2, 2, 2}, "0 0 7 0 0 0 8 0")},
		{pad(0, 1, 0, 0, 0, 0, 1, 0), of(api.Shape{1, 1, 2, 1}, "7 8"), of(api.Shape{2, 1, 2, 2}, "0 7 0 8 0 0 0 0")},
		{pad(0, 2), of(api.Shape{1}, "0"), of(api.Shape{3}, "0 0 0")},
	})
}

func TestPadByNoPads(t *testing.T) {
	x := numbered(2, 3)
	checkRefused(t, x, api.ErrAttr, pad(), pad(0), pad(0, 0), pad(0, 0, 0), pad(0, 0, 0, 0, 0), pad(0, 0, 0, 0, 0, 0),
		pad(-1, 0, 0, 0), pad(0, -1, 0, 0), pad(0, 0, -1, 0), pad(0, 0, 0, -1), pad(1, -1, 0, 0), pad(-1, 1, 0, 0), pad(0, 0, 0, math.MinInt),
		// A number below 0 goes before those that are too great.
		pad(1024, 0, 0, -1), pad(math.MaxInt, -1, 0, 0), pad(-1, math.MaxInt, 0, 0), pad(0, 0, math.MaxInt, -1), pad(-1, 0, 0, 5000), pad(5000, 0, 0))
	checkRefused(t, of(nil, "1"), api.ErrAttr, pad(0), pad(0, 0), pad(1, 1), pad(-1))
}

// checkRoom pads to just as many elements as there may be, or to a few less.
func checkRoom(t *testing.T, x api.Tensor, n int, pads ...int) {
	t.Helper()
	call := fmt.Sprint("Pad by ", pads, " of ", x.Shape)
	got, e := move.Pad(x, pads)
	checkError(t, call, e, api.OK)
	checkError(t, "May of "+call, tensor.May(got), api.OK)
	if len(got.Elems) != n {
		t.Errorf("%s: %d elements, want %d", call, len(got.Elems), n)
	}
}

func TestPadToTheLimit(t *testing.T) {
	checkRoom(t, numbered(2, 3), 1024, 0, 0, 0, 509)
	checkRoom(t, numbered(2, 3), 1024, 0, 0, 509, 0)
	checkRoom(t, numbered(2, 3), 1024, 0, 0, 255, 254)
	checkRoom(t, numbered(2, 3), 1024, 6, 8, 30, 31)
	checkRoom(t, numbered(2, 3), 1023, 0, 339, 0, 0)
	checkRoom(t, numbered(1), 1024, 1023, 0)
	checkRoom(t, numbered(1), 1024, 0, 1023)
	checkRoom(t, numbered(1), 1024, 511, 512)
	checkRoom(t, numbered(1024), 1024, 0, 0)
	checkRoom(t, numbered(1, 1, 1, 1), 1024, 3, 0, 0, 3, 4, 3, 3, 4)
	checkRefused(t, numbered(2, 3), api.ErrLimit, pad(0, 0, 0, 510), pad(0, 0, 510, 0), pad(0, 0, 255, 255), pad(0, 340, 0, 0), pad(340, 0, 0, 0),
		pad(6, 9, 30, 31), pad(7, 8, 30, 31), pad(6, 8, 31, 31), pad(6, 8, 30, 32))
	checkRefused(t, numbered(1), api.ErrLimit, pad(1024, 0), pad(0, 1024), pad(512, 512), pad(1023, 1), pad(1, 1023), pad(1024, 1024))
	checkRefused(t, numbered(1024), api.ErrLimit, pad(0, 1), pad(1, 0), pad(1, 1))
	checkRefused(t, numbered(1, 1, 1, 1), api.ErrLimit, pad(3, 0, 0, 3, 4, 3, 3, 5), pad(1<<16, 0, 1<<16, 0, 0, 1<<16, 0, 1<<16))
}

// The sums and products overflow an int, some of them to small numbers above 0.
func TestPadByGreatNumbers(t *testing.T) {
	most := math.MaxInt
	checkRefused(t, numbered(2, 3), api.ErrLimit, pad(0, 0, 0, most), pad(0, 0, most, 0), pad(0, 0, most, most), pad(most, most, most, most),
		pad(most, 0, 0, 0), pad(most, 1, 0, 0), pad(0, 0, most-2, 0), pad(0, 0, most-3, 0), pad(1<<62, 1<<62, 0, 0), pad(0, 0, 1<<62, 1<<62))
	checkRefused(t, numbered(3), api.ErrLimit, pad(most, most), pad(most, most-1), pad(most-2, most))
	checkRefused(t, numbered(2, 2, 2, 2), api.ErrLimit, pad(1<<16-2, 0, 1<<16-2, 0, 1<<16-2, 0, 1<<16-2, 0),
		pad(most, most, most, most, most, most, most, most), pad(1<<32-2, 0, 0, 1<<32-2, 0, 0, 0, 0))
}

func TestConcat(t *testing.T) {
	x := numbered(2, 3)
	checkMoved(t, []moved{
		{concat(1, of(api.Shape{2, 1}, "8 9")), x, of(api.Shape{2, 4}, "1 2 3 8 4 5 6 9")},
		{concat(0, of(api.Shape{1, 3}, "7 8 9")), x, of(api.Shape{3, 3}, numbers(1, 9))},
		{concat(1, of(api.Shape{2, 1}, "8 9"), x), x, of(api.Shape{2, 7}, "1 2 3 8 1 2 3 4 5 6 9 4 5 6")},
		{concat(0), x, x},
		{concat(1), x, x},
		{concat(0), numbered(4), numbered(4)},
		{concat(3), numbered(1, 1, 1, 1), numbered(1, 1, 1, 1)},
		{concat(0, x), x, of(api.Shape{4, 3}, "1 2 3 4 5 6 1 2 3 4 5 6")},
		{concat(1, x, x), x, of(api.Shape{2, 9}, "1 2 3 1 2 3 1 2 3 4 5 6 4 5 6 4 5 6")},
		{concat(0, of(api.Shape{1}, "-1/2"), of(api.Shape{3}, "0 5/6 -7")), numbered(2), of(api.Shape{6}, "1 2 -1/2 0 5/6 -7")},
		{concat(1, of(api.Shape{2, 2, 2}, numbers(5, 12))), numbered(2, 1, 2), of(api.Shape{2, 3, 2}, "1 2 5 6 7 8 3 4 9 10 11 12")},
		{concat(2, of(api.Shape{2, 1, 1}, "5 6")), numbered(2, 1, 2), of(api.Shape{2, 1, 3}, "1 2 5 3 4 6")},
		{concat(3, numbered(1, 1, 1, 2)), numbered(1, 1, 1, 1), of(api.Shape{1, 1, 1, 3}, "1 1 2")},
	})
}

func TestConcatErrors(t *testing.T) {
	for _, axis := range []int{0, 1, -1, math.MinInt, math.MaxInt} {
		got, e := move.Concat(axis)
		checkNone(t, "Concat of nothing", got, e, api.ErrArg)
		got, e = move.Concat(axis, []api.Tensor{}...)
		checkNone(t, "Concat of an empty list", got, e, api.ErrArg)
	}
	x, one := numbered(2, 3), of(nil, "1")
	checkRefused(t, x, api.ErrAttr, concat(-1), concat(2), concat(3), concat(math.MinInt), concat(math.MaxInt), concat(2, x), concat(-1, x),
		// The axis goes before the shapes, and is held against the first one.
		concat(2, one), concat(-1, numbered(3)), concat(2, numbered(2, 3, 1)))
	checkRefused(t, one, api.ErrAttr, concat(0), concat(-1), concat(1), concat(0, one), concat(0, numbered(1)))
	checkRefused(t, numbered(3), api.ErrAttr, concat(1, x), concat(1), concat(-1, x))
	checkRefused(t, x, api.ErrShape, concat(0, one), concat(1, one), concat(0, numbered(3)), concat(1, numbered(2)), concat(1, numbered(3)),
		concat(0, numbered(2)), concat(0, numbered(2, 2)), concat(0, numbered(3, 2)), concat(1, numbered(1, 3)), concat(1, numbered(3, 2)),
		concat(0, numbered(2, 3, 1)), concat(1, numbered(2, 3, 1)), concat(0, numbered(1, 2, 3)), concat(1, numbered(2, 1, 3)),
		concat(0, x, x, numbered(2, 1)), concat(1, x, numbered(1, 1), x), concat(0, numbered(1, 1)))
	checkRefused(t, numbered(1), api.ErrShape, concat(0, one), concat(0, numbered(1, 1)))
	checkRefused(t, numbered(2, 3, 4), api.ErrShape, concat(1, numbered(2, 3, 5)), concat(1, numbered(3, 3, 4)), concat(1, numbered(2, 4)), concat(2, numbered(2, 3)))
}

func TestConcatToTheLimit(t *testing.T) {
	half, row, square := numbered(512), numbered(1, 32), numbered(32, 32)
	checkMoved(t, []moved{
		{concat(0, half), half, api.Tensor{Shape: api.Shape{1024}, Elems: slices.Concat(half.Elems, half.Elems)}},
		{concat(0, row), numbered(31, 32), api.Tensor{Shape: api.Shape{32, 32}, Elems: slices.Concat(counted(992), counted(32))}},
		{concat(0), square, square},
		{concat(0, slices.Repeat([]api.Tensor{numbered(1)}, 1023)...), numbered(1), of(api.Shape{1024}, strings.Repeat("1 ", 1024))},
	})
	checkRefused(t, half, api.ErrLimit, concat(0, half, numbered(1)), concat(0, numbered(513)), concat(0, half, half), concat(0, numbered(1024)))
	checkRefused(t, square, api.ErrLimit, concat(0, row), concat(1, numbered(32, 1)), concat(0, square, square))
	checkRefused(t, numbered(1), api.ErrLimit, concat(0, slices.Repeat([]api.Tensor{numbered(1)}, 1024)...), concat(0, numbered(1024)))
	// A shape that differs goes before too many elements.
	checkRefused(t, half, api.ErrShape, concat(0, half, half, numbered(1, 1)), concat(0, numbered(1024), of(nil, "1")))
	checkRefused(t, square, api.ErrShape, concat(0, square, numbered(2, 2)), concat(0, numbered(2, 2), square))
}

// broken are tensors that may not be, with the error of May.
func broken() map[api.Errno][]api.Tensor {
	bad := unfit()
	odd := []api.Tensor{
		{Elems: bad[:1]},
		{Shape: api.Shape{2, 2}, Elems: append(counted(3), bad[len(bad)-1])},
		{Shape: api.Shape{len(bad)}, Elems: bad},
	}
	for _, r := range bad {
		odd = append(odd, api.Tensor{Shape: api.Shape{2}, Elems: append(counted(1), r)}, api.Tensor{Shape: api.Shape{2}, Elems: append([]api.Rat{r}, counted(1)...)})
	}
	return map[api.Errno][]api.Tensor{
		api.ErrRat: odd,
		api.ErrLimit: {
			{Shape: api.Shape{1, 1, 1, 1, 1}, Elems: counted(1)},
			{Shape: api.Shape{1025}, Elems: counted(1025)},
			{Shape: api.Shape{0, 1, 1, 1, 1}},
			{Shape: api.Shape{math.MaxInt, math.MaxInt}, Elems: bad},
		},
		api.ErrShape: {
			{},
			{Shape: api.Shape{0}},
			{Shape: api.Shape{-2, -2}, Elems: counted(4)},
			{Shape: api.Shape{2, 2}},
			{Shape: api.Shape{2, 2}, Elems: counted(3)},
			{Shape: api.Shape{2, 2}, Elems: counted(5)},
			{Shape: api.Shape{2, 2}, Elems: bad[:1]},
		},
	}
}

// anyCalls have, for most tensors, something else that is wrong; for each rank some have nothing.
func anyCalls() []call {
	list := []call{concat(0), concat(1), concat(-1), concat(9), concat(0, numbered(2, 2)), concat(0, numbered(1024), numbered(1024)), concat(0, of(nil, "1"))}
	for _, l := range [][]int{
		nil, {0}, {1}, {2}, {4}, {0, 1}, {1, 0}, {0, 2}, {2, 2}, {0, 0}, {1, 1, 1, 1}, {0, 1, 0, 1}, {0, 0, 0, 0}, {0, 9, 0, 9}, {0, 0, -1, 2},
		{-1}, {-1, 3}, {2000}, {1025, 0}, {5, 5, 5, 5, 5}, {1, 1, 1, 1, 1}, {math.MaxInt, math.MaxInt}, {math.MaxInt, 0, math.MinInt, 0},
	} {
		list = append(list, transpose(l...), reshape(l...), broadcast(l...), slice(l...), pad(l...))
	}
	return list
}

func TestBrokenTensors(t *testing.T) {
	for want, list := range broken() {
		for _, x := range list {
			checkError(t, "May", tensor.May(x), want)
			checkRefused(t, x, want, anyCalls()...)
		}
	}
}

// The first of several tensors that are broken gives the error, before the axis and the shapes.
func TestBrokenParts(t *testing.T) {
	good, big := numbered(2, 2), numbered(1024)
	for want, list := range broken() {
		for _, x := range list {
			for _, axis := range []int{0, 1, 2, -1} {
				checkRefused(t, good, want, concat(axis, x), concat(axis, good, x), concat(axis, x, good), concat(axis, big, big, x))
			}
			for _, others := range broken() {
				for _, y := range others {
					checkRefused(t, x, want, concat(0, y))
					checkRefused(t, good, want, concat(7, x, y), concat(0, numbered(3), x, big, y))
				}
			}
		}
	}
}

func TestExamples(t *testing.T) {
	x := of(api.Shape{2, 3}, "1 2 3 4 5 6")
	got, e := move.Transpose(x, []int{1, 0})
	checkCall(t, "Transpose", got, e, of(api.Shape{3, 2}, "1 4 2 5 3 6"))
	got, e = move.Slice(x, []int{0, 1, 1, 3})
	checkCall(t, "Slice", got, e, of(api.Shape{1, 2}, "2 3"))
	got, e = move.Pad(got, []int{0, 0, 1, 0})
	checkCall(t, "Pad of that", got, e, of(api.Shape{1, 3}, "0 2 3"))
}
