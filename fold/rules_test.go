package fold_test

import (
	"fmt"
	"math"
	"slices"
	"testing"

	"fluxion/api"
	"fluxion/fold"
)

// call is a call for three tensors, of which it may use the first ones alone, and axes, which it
// may not use.
type call struct {
	name string
	do   func(xs []api.Tensor, axes []int) (api.Tensor, api.Errno)
}

func calls() []call {
	return []call{
		{"Sum", func(xs []api.Tensor, axes []int) (api.Tensor, api.Errno) { return fold.Sum(xs[0], axes...) }},
		{"Mean", func(xs []api.Tensor, axes []int) (api.Tensor, api.Errno) { return fold.Mean(xs[0], axes...) }},
		{"MatMul", func(xs []api.Tensor, _ []int) (api.Tensor, api.Errno) { return fold.MatMul(xs[0], xs[1]) }},
		{"Gemm", func(xs []api.Tensor, _ []int) (api.Tensor, api.Errno) { return fold.Gemm(xs[0], xs[1], xs[2]) }},
	}
}

// givenTensors are lists of tensors that are valid, and some that are not.
func givenTensors() [][]api.Tensor {
	x, y := of(api.Shape{2, 2}, "0 -1/3 18446744073709551617/5 1"), of(api.Shape{2, 1}, "1/2 -7")
	one := of(nil, "-3/8")
	list := [][]api.Tensor{
		{one, one, one},
		{x, x, x},
		{x, y, one},
		{x, y, y},
		{y, of(api.Shape{1, 2}, "18446744073709551616 0"), of(api.Shape{2}, "1/3 0")},
		{of(api.Shape{1, 1}, "-2/3"), of(api.Shape{1, 1}, "1"), of(api.Shape{1}, "0")},
		{x, full("0", 2, 3), full("0", 1, 1)},
		{x, y, numbered(3)},
		{x, numbered(3, 2), x},
		{numbered(4), numbered(4), one},
		{of(api.Shape{2, 1, 2}, "1/2 -18446744073709551616 3 0"), x, y},
		{numbered(1, 2, 1, 2), y, x},
		{numbered(64, 1), numbered(1, 17), one},
	}
	eachBroken(func(z api.Tensor, _ api.Errno) {
		if len(z.Elems) < 1000 {
			list = append(list, []api.Tensor{z, x, y}, []api.Tensor{x, z, y}, []api.Tensor{x, y, z})
		}
	})
	return list
}

func givenAxes() [][]int {
	return [][]int{nil, {}, {0}, {1}, {2}, {3}, {4}, {-1}, {0, 1}, {1, 0}, {0, 0}, {0, 2}, {1, 2}, {1, 3}, {0, 1, 2}, {0, 2, 3}, {0, 1, 2, 3}, {9}, {3, 9}, {-1, 9}, {math.MaxInt}, {math.MinInt}}
}

// roomyList returns a list with spare capacity behind it, so that an append to an argument shows.
func roomyList[T any](l []T, spare T) []T {
	r := slices.Concat(l, []T{spare, spare, spare})
	return r[:len(l)]
}

func whole[T any](l []T) []T { return l[:cap(l)] }

func roomy(x api.Tensor) api.Tensor {
	r := api.Tensor{Shape: roomyList(x.Shape, 77)}
	for _, a := range x.Elems {
		r.Elems = append(r.Elems, api.Rat{Neg: a.Neg, Num: roomyList(a.Num, 0xABCD), Den: roomyList(a.Den, 0xABCD)})
	}
	r.Elems = roomyList(r.Elems, api.Rat{Neg: true, Num: api.Nat{5, 6}, Den: api.Nat{7}})
	return r
}

func roomyTensors(xs []api.Tensor) []api.Tensor {
	var r []api.Tensor
	for _, x := range xs {
		r = append(r, roomy(x))
	}
	return r
}

// told writes all memory of tensors, with what lies behind the ends of their lists.
func told(xs ...api.Tensor) string {
	text := ""
	for _, x := range xs {
		text += fmt.Sprintln(len(x.Shape), whole(x.Shape), len(x.Elems))
		for _, a := range whole(x.Elems) {
			text += fmt.Sprintln(a.Neg, len(a.Num), whole(a.Num), len(a.Den), whole(a.Den))
		}
	}
	return text
}

func toldAll(xs []api.Tensor, axes []int) string { return told(xs...) + fmt.Sprint(whole(axes)) }

func checkTold(t *testing.T, what, got, want string) {
	t.Helper()
	if got != want {
		t.Errorf("%s:\n%s\nbefore:\n%s", what, got, want)
	}
}

// limbs lists the limbs of all elements, side by side.
func limbs(x api.Tensor) []api.Nat {
	var list []api.Nat
	for _, a := range x.Elems {
		list = append(list, a.Num, a.Den)
	}
	return list
}

func spoilLimbs(a api.Nat) {
	for i := range whole(a) {
		whole(a)[i] = ^whole(a)[i]
	}
}

func spoilNumbers(l []int) {
	for i := range whole(l) {
		whole(l)[i] = ^whole(l)[i]
	}
}

func spoil(x api.Tensor) {
	for _, a := range limbs(x) {
		spoilLimbs(a)
	}
	spoilNumbers(x.Shape)
	for i := range whole(x.Elems) {
		whole(x.Elems)[i] = api.Rat{Neg: !whole(x.Elems)[i].Neg, Num: api.Nat{4, 4}}
	}
}

func spoilAll(xs []api.Tensor, axes []int) {
	for _, x := range xs {
		spoil(x)
	}
	spoilNumbers(axes)
}

// eachCall gives every call all lists of tensors with all axes.
func eachCall(do func(c call, xs []api.Tensor, axes []int)) {
	for _, c := range calls() {
		for _, xs := range givenTensors() {
			for _, axes := range givenAxes() {
				do(c, xs, axes)
			}
		}
	}
}

func TestArgumentsStay(t *testing.T) {
	eachCall(func(c call, xs []api.Tensor, axes []int) {
		xs, axes = roomyTensors(xs), roomyList(axes, 55)
		before := toldAll(xs, axes)
		r, _ := c.do(xs, axes)
		checkTold(t, c.name+" changes an argument", toldAll(xs, axes), before)
		spoil(r)
		checkTold(t, c.name+": the arguments, after the result changed", toldAll(xs, axes), before)
	})
}

func TestResultsAreNewMemory(t *testing.T) {
	eachCall(func(c call, xs []api.Tensor, axes []int) {
		xs, axes = roomyTensors(xs), roomyList(axes, 55)
		first, e := c.do(xs, axes)
		second, again := c.do(xs, axes)
		checkError(t, c.name+": a second call", again, e)
		checkTensor(t, c.name+": a second call", second, first)
		want := told(first)
		spoil(second)
		checkTold(t, c.name+": a result, after that of another call changed", told(first), want)
		spoilAll(xs, axes)
		checkTold(t, c.name+": a result, after the arguments changed", told(first), want)
	})
}

func checkApart(t *testing.T, c call, xs []api.Tensor, axes []int) {
	t.Helper()
	r, _ := c.do(xs, axes)
	for i, a := range limbs(r) {
		others := slices.Delete(limbs(r), i, i+1)
		before := fmt.Sprint(r.Shape, others)
		spoilLimbs(a)
		checkTold(t, c.name+": another list", fmt.Sprint(r.Shape, others), before)
	}
}

// No two lists of one result share memory either.
func TestListsOfResultsAreApart(t *testing.T) {
	eachCall(func(c call, xs []api.Tensor, axes []int) {
		if len(xs[0].Elems) < 10 {
			checkApart(t, c, xs, axes)
		}
	})
}

// Elements that share limbs with each other are no reason for a result that does.
func TestSharedLimbs(t *testing.T) {
	side := api.Nat{1}
	one := api.Rat{Num: side, Den: side}
	shared := api.Tensor{Shape: api.Shape{2, 2}, Elems: []api.Rat{one, one, one, one}}
	for _, c := range calls() {
		for _, axes := range axesOf(2) {
			checkApart(t, c, []api.Tensor{shared, shared, shared}, axes)
		}
	}
	checkTold(t, "the shared limbs", fmt.Sprint(side), "[1]")
}

// One list may be the shape of the tensor and the axes too.
func TestOneListTwice(t *testing.T) {
	l := roomyList([]int{1, 2}, 55)
	x := api.Tensor{Shape: l, Elems: counted(2)}
	before := fmt.Sprint(whole(l))
	checkAxes(t, x, api.ErrShape, l)
	checkFolded(t, []folded{{x, l[:1], of(api.Shape{1}, "3"), of(api.Shape{1}, "3/2")}})
	got, e := fold.MatMul(x, api.Tensor{Shape: slices.Repeat(l[1:], 2), Elems: counted(4)})
	checkCall(t, "MatMul", got, e, of(api.Shape{1, 2}, "7 10"))
	checkTold(t, "the list", fmt.Sprint(whole(l)), before)
}

// nil and empty are the same.
func TestNilAndEmpty(t *testing.T) {
	eachCall(func(c call, xs []api.Tensor, axes []int) {
		var ys []api.Tensor
		for _, x := range xs {
			y := api.Tensor{Shape: append(api.Shape{}, x.Shape...), Elems: []api.Rat{}}
			for _, a := range x.Elems {
				y.Elems = append(y.Elems, api.Rat{Neg: a.Neg, Num: append(api.Nat{}, a.Num...), Den: append(api.Nat{}, a.Den...)})
			}
			ys = append(ys, y)
		}
		got, e := c.do(ys, append([]int{}, axes...))
		want, f := c.do(xs, slices.Clip(axes))
		checkError(t, c.name, e, f)
		checkTensor(t, c.name, got, want)
	})
}

// P0.7

func TestAllCallsEnd(t *testing.T) {
	long := api.Rat{Neg: true, Num: append(make(api.Nat, 300), 1), Den: api.Nat{3}}
	ones := slices.Repeat([]int{1}, 100000)
	good := numbered(2, 2)
	tensors := givenTensors()
	for _, x := range []api.Tensor{
		{Shape: make(api.Shape, 100000)},
		{Shape: ones, Elems: counted(1)},
		{Shape: api.Shape{math.MaxInt, math.MaxInt}, Elems: make([]api.Rat, 5000)},
		{Shape: api.Shape{math.MinInt, math.MinInt}, Elems: unfit()},
		{Shape: api.Shape{math.MaxInt, 2}},
		{Shape: api.Shape{1 << 32, 1 << 32}},
		{Shape: api.Shape{2}, Elems: []api.Rat{long, long}},
		{Shape: api.Shape{2, 2}, Elems: []api.Rat{long, long, long, long}},
	} {
		tensors = append(tensors, []api.Tensor{x, x, x}, []api.Tensor{good, x, good}, []api.Tensor{good, good, x}, []api.Tensor{x, good, x})
	}
	rising := make([]int, 100000)
	for i := range rising {
		rising[i] = i
	}
	lists := append(givenAxes(), ones, rising, make([]int, 100000), []int{math.MinInt, math.MaxInt}, []int{math.MaxInt, math.MinInt}, slices.Repeat([]int{math.MaxInt}, 1000))
	for _, c := range calls() {
		for _, xs := range tensors {
			for _, axes := range lists {
				c.do(xs, axes)
			}
		}
	}
}
