package tensor_test

import (
	"fmt"
	"math"
	"slices"
	"testing"

	"fluxion/api"
	"fluxion/tensor"
)

// call is a call for two tensors, of which it may use one alone or a part, with the tensor that
// it returns; a number that it returns stands in a tensor without a shape.
type call struct {
	name string
	do   func(a, b api.Tensor) api.Tensor
}

func calls() []call {
	list := []call{
		{"May", func(a, b api.Tensor) api.Tensor { tensor.May(a); return api.Tensor{} }},
		{"Make", func(a, b api.Tensor) api.Tensor { r, _ := tensor.Make(a.Shape, a.Elems...); return r }},
		{"Make of two", func(a, b api.Tensor) api.Tensor { r, _ := tensor.Make(a.Shape, b.Elems...); return r }},
		{"Full", func(a, b api.Tensor) api.Tensor { r, _ := tensor.Full(a.Shape, first(b)); return r }},
		{"Scalar", func(a, b api.Tensor) api.Tensor { return tensor.Scalar(first(a)) }},
		{"Copy", func(a, b api.Tensor) api.Tensor { return tensor.Copy(a) }},
		{"Same", func(a, b api.Tensor) api.Tensor { tensor.Same(a, b); return api.Tensor{} }},
		{"Bits", func(a, b api.Tensor) api.Tensor { tensor.Bits(a); return api.Tensor{} }},
		{"Dot", func(a, b api.Tensor) api.Tensor { return one(tensor.Dot(a, b)) }},
		{"Dot with itself", func(a, b api.Tensor) api.Tensor { return one(tensor.Dot(a, a)) }},
		{"At the shape", func(a, b api.Tensor) api.Tensor { return one(tensor.At(a, b.Shape...)) }},
	}
	for _, index := range [][]int{nil, {0}, {1}, {0, 0}, {1, 0}, {1, 1}, {-1}, {9, 9, 9}} {
		list = append(list, call{"At", func(a, b api.Tensor) api.Tensor { return one(tensor.At(a, index...)) }})
	}
	return list
}

func one(x api.Rat, e api.Errno) api.Tensor {
	return api.Tensor{Elems: []api.Rat{x}}
}

func first(t api.Tensor) api.Rat {
	if len(t.Elems) == 0 {
		return api.Rat{}
	}
	return t.Elems[0]
}

// given are tensors that are valid, and some that are not.
func given() []api.Tensor {
	return append(odd(),
		of(nil, "0"),
		of(nil, "-3/8"),
		of(api.Shape{1}, "2"),
		of(api.Shape{1, 1}, "-18446744073709551616/3"),
		of(api.Shape{2}, "1/2 -18446744073709551616"),
		of(api.Shape{2, 2}, "1 2 3 4"),
		of(api.Shape{2, 2}, "0 -1/3 18446744073709551617/5 0"),
		api.Tensor{Shape: api.Shape{2}, Elems: []api.Rat{{Num: api.Nat{6, 0}, Den: api.Nat{4, 0}}, {}}},
	)
}

// roomyList returns a list with spare capacity behind it, so that an append to an argument shows.
func roomyList[T any](l []T, spare T) []T {
	r := slices.Concat(l, []T{spare, spare, spare})
	return r[:len(l)]
}

func whole[T any](l []T) []T { return l[:cap(l)] }

func roomy(t api.Tensor) api.Tensor {
	r := api.Tensor{Shape: roomyList(t.Shape, 77)}
	for _, x := range t.Elems {
		r.Elems = append(r.Elems, api.Rat{Neg: x.Neg, Num: roomyList(x.Num, 0xABCD), Den: roomyList(x.Den, 0xABCD)})
	}
	r.Elems = roomyList(r.Elems, api.Rat{Neg: true, Num: api.Nat{5, 6}, Den: api.Nat{7}})
	return r
}

// told writes all memory of tensors, with what lies behind the ends of their lists.
func told(ts ...api.Tensor) string {
	text := ""
	for _, t := range ts {
		text += fmt.Sprintln(whole(t.Shape))
		for _, x := range whole(t.Elems) {
			text += fmt.Sprintln(x.Neg, len(x.Num), whole(x.Num), len(x.Den), whole(x.Den))
		}
	}
	return text
}

func checkTold(t *testing.T, what, got, want string) {
	t.Helper()
	if got != want {
		t.Errorf("%s:\n%s\nbefore:\n%s", what, got, want)
	}
}

// limbs lists the limbs of all elements, side by side.
func limbs(t api.Tensor) []api.Nat {
	var list []api.Nat
	for _, x := range t.Elems {
		list = append(list, x.Num, x.Den)
	}
	return list
}

func spoilLimbs(a api.Nat) {
	for i := range whole(a) {
		whole(a)[i] = ^whole(a)[i]
	}
}

func spoil(t api.Tensor) {
	for _, a := range limbs(t) {
		spoilLimbs(a)
	}
	for i := range whole(t.Shape) {
		whole(t.Shape)[i] = ^whole(t.Shape)[i]
	}
	for i := range whole(t.Elems) {
		whole(t.Elems)[i] = api.Rat{Neg: !whole(t.Elems)[i].Neg, Num: api.Nat{4, 4}}
	}
}

// eachPair gives every call every two of the given tensors, in memory of their own.
func eachPair(do func(c call, a, b api.Tensor)) {
	for _, c := range calls() {
		for _, x := range given() {
			for _, y := range given() {
				if len(x.Elems)+len(y.Elems) < 1000 {
					do(c, roomy(x), roomy(y))
				}
			}
		}
	}
}

func TestArgumentsStay(t *testing.T) {
	eachPair(func(c call, a, b api.Tensor) {
		before := told(a, b)
		r := c.do(a, b)
		checkTold(t, c.name+" changes an argument", told(a, b), before)
		spoil(r)
		checkTold(t, c.name+": the arguments, after the result changed", told(a, b), before)
	})
}

func TestResultsAreNewMemory(t *testing.T) {
	eachPair(func(c call, a, b api.Tensor) {
		first, second := c.do(a, b), c.do(a, b)
		checkTensor(t, c.name+": a second call", second, first)
		want := told(first)
		spoil(second)
		checkTold(t, c.name+": a result, after that of another call changed", told(first), want)
		spoil(a)
		spoil(b)
		checkTold(t, c.name+": a result, after the arguments changed", told(first), want)
	})
}

// No two lists of one result share memory either: of equal elements each has limbs of its own.
func TestListsOfResultsAreApart(t *testing.T) {
	eachPair(func(c call, a, b api.Tensor) {
		r := c.do(a, b)
		for i, l := range limbs(r) {
			before := fmt.Sprint(r.Shape, slices.Delete(limbs(r), i, i+1))
			spoilLimbs(l)
			after := fmt.Sprint(r.Shape, slices.Delete(limbs(r), i, i+1))
			checkTold(t, c.name+": another list", after, before)
		}
	})
}

// Elements that share limbs with each other are no reason for a result that does.
func TestSharedLimbs(t *testing.T) {
	side := api.Nat{1}
	x := api.Rat{Num: side, Den: side}
	shared := api.Tensor{Shape: api.Shape{2}, Elems: []api.Rat{x, x}}
	checkError(t, "May", tensor.May(shared), api.OK)
	made, _ := tensor.Make(shared.Shape, shared.Elems...)
	full, _ := tensor.Full(shared.Shape, x)
	at, _ := tensor.At(shared, 1)
	for _, r := range []api.Tensor{made, full, tensor.Copy(shared), tensor.Scalar(x), one(at, api.OK)} {
		r.Elems[0].Num[0] = 9
		checkRat(t, "the element that changed", r.Elems[0], num("9"))
		for _, y := range append(r.Elems[1:], x) {
			checkRat(t, "another element", y, num("1"))
		}
	}
}

// nil and empty are the same.
func TestNilAndEmpty(t *testing.T) {
	for _, x := range given() {
		y := api.Tensor{Shape: append(api.Shape{}, x.Shape...), Elems: []api.Rat{}}
		for _, n := range x.Elems {
			y.Elems = append(y.Elems, api.Rat{Neg: n.Neg, Num: append(api.Nat{}, n.Num...), Den: append(api.Nat{}, n.Den...)})
		}
		checkError(t, "May", tensor.May(y), tensor.May(x))
		if !tensor.Same(x, y) || tensor.Bits(x) != tensor.Bits(y) {
			t.Errorf("Same, Bits of %v and %v", x, y)
		}
		for _, c := range calls() {
			checkTensor(t, c.name, c.do(y, y), c.do(x, x))
		}
	}
}

// P0.7

func TestAllCallsEnd(t *testing.T) {
	long := api.Rat{Neg: true, Num: append(api.Nat{1}, make(api.Nat, 1000)...), Den: make(api.Nat, 1000)}
	list := append(given(),
		api.Tensor{Shape: make(api.Shape, 100000)},
		api.Tensor{Shape: slices.Repeat(api.Shape{1}, 100000), Elems: counted(1)},
		api.Tensor{Shape: api.Shape{math.MaxInt, math.MaxInt}, Elems: make([]api.Rat, 5000)},
		api.Tensor{Shape: api.Shape{math.MinInt, math.MinInt}, Elems: unfit()},
		api.Tensor{Shape: api.Shape{1 << 32, 1 << 32}},
		api.Tensor{Shape: api.Shape{2}, Elems: []api.Rat{long, long}},
		api.Tensor{Elems: []api.Rat{long}},
	)
	for _, a := range list {
		for _, b := range list {
			for _, c := range calls() {
				c.do(a, b)
			}
		}
	}
}
