package move_test

import (
	"fmt"
	"math"
	"slices"
	"testing"

	"fluxion/api"
	"fluxion/move"
)

// ofList is a call for several tensors, of which it may use the first one alone, and a list of
// numbers, of which the first one may be all that it uses.
type ofList struct {
	name string
	do   func(xs []api.Tensor, l []int) (api.Tensor, api.Errno)
}

func calls() []ofList {
	return []ofList{
		{"Transpose", func(xs []api.Tensor, l []int) (api.Tensor, api.Errno) { return move.Transpose(xs[0], l) }},
		{"Reshape", func(xs []api.Tensor, l []int) (api.Tensor, api.Errno) { return move.Reshape(xs[0], l) }},
		{"Broadcast", func(xs []api.Tensor, l []int) (api.Tensor, api.Errno) { return move.Broadcast(xs[0], l) }},
		{"Slice", func(xs []api.Tensor, l []int) (api.Tensor, api.Errno) { return move.Slice(xs[0], l) }},
		{"Pad", func(xs []api.Tensor, l []int) (api.Tensor, api.Errno) { return move.Pad(xs[0], l) }},
		{"Concat", func(xs []api.Tensor, l []int) (api.Tensor, api.Errno) { return move.Concat(firstOf(l), xs...) }},
	}
}

func firstOf(l []int) int {
	if len(l) == 0 {
		return 0
	}
	return l[0]
}

// givenTensors are lists of tensors that are valid, and some that are not.
func givenTensors() [][]api.Tensor {
	list := [][]api.Tensor{
		{of(nil, "-3/8")},
		{of(nil, "0"), of(nil, "0")},
		{numbered(1), numbered(1)},
		{of(api.Shape{2}, "1/2 -18446744073709551616"), of(api.Shape{1}, "0")},
		{of(api.Shape{2, 2}, "0 -1/3 18446744073709551617/5 1"), numbered(2, 2), numbered(1, 2), numbered(2, 1)},
		{numbered(2, 2), numbered(1, 2)},
		{numbered(2, 3), numbered(2, 3)},
		{numbered(2, 1, 2)},
	}
	for _, e := range []api.Errno{api.ErrRat, api.ErrLimit, api.ErrShape} {
		for _, x := range broken()[e] {
			if len(x.Elems) < 1000 {
				list = append(list, []api.Tensor{x}, []api.Tensor{numbered(2), x})
			}
		}
	}
	return list
}

// givenLists are permutations, shapes, pairs or nothing of all that.
func givenLists() [][]int {
	return [][]int{
		nil, {}, {0}, {1}, {2}, {3}, {-1}, {1, 0}, {0, 1}, {0, 2}, {2, 1}, {2, 3}, {3, 2}, {2, 2}, {4, 1}, {0, 1, 2}, {2, 0, 1}, {2, 2, 2}, {2, 1, 1, 2},
		{0, 1, 0, 1}, {0, 2, 0, 2}, {1, 2, 0, 1}, {0, 0, 0, 0}, {0, 1, 1, 0}, {0, 3, 0, 1}, {0, 1, 0, 1, 0, 1}, {0, 2, 0, 1, 1, 2}, {1, 0, 0, 0, 0, 2},
		{0, 0, 0, 1024}, {2000}, {1, 1, 1, 1, 1}, {math.MaxInt, math.MaxInt}, {math.MinInt, 1},
	}
}

// roomyList returns a list with spare capacity behind it, so that an append to an argument shows.
func roomyList[T any](l []T, spare T) []T {
	r := slices.Concat(l, []T{spare, spare, spare})
	return r[:len(l)]
}

func whole[T any](l []T) []T { return l[:cap(l)] }

func roomy(x api.Tensor) api.Tensor {
	r := api.Tensor{Shape: roomyList(x.Shape, 77)}
	for _, a := range x.Elems {
		r.Elems = append(r.Elems, api.Rat{Neg: a.Neg, Num: roomyList(a.Num, 0xABCD), Den: roomyList(a.Den, 0xABCD)})
	}
	r.Elems = roomyList(r.Elems, api.Rat{Neg: true, Num: api.Nat{5, 6}, Den: api.Nat{7}})
	return r
}

func roomyTensors(xs []api.Tensor) []api.Tensor {
	var r []api.Tensor
	for _, x := range xs {
		r = append(r, roomy(x))
	}
	return roomyList(r, numbered(3))
}

// told writes all memory of tensors, with what lies behind the ends of their lists.
func told(xs ...api.Tensor) string {
	text := ""
	for _, x := range whole(xs) {
		text += fmt.Sprintln(whole(x.Shape))
		for _, a := range whole(x.Elems) {
			text += fmt.Sprintln(a.Neg, len(a.Num), whole(a.Num), len(a.Den), whole(a.Den))
		}
	}
	return text
}

func toldAll(xs []api.Tensor, l []int) string { return told(xs...) + fmt.Sprint(whole(l)) }

func checkTold(t *testing.T, what, got, want string) {
	t.Helper()
	if got != want {
		t.Errorf("%s:\n%s\nbefore:\n%s", what, got, want)
	}
}

// limbs lists the limbs of all elements, side by side.
func limbs(x api.Tensor) []api.Nat {
	var list []api.Nat
	for _, a := range x.Elems {
		list = append(list, a.Num, a.Den)
	}
	return list
}

func spoilLimbs(a api.Nat) {
	for i := range whole(a) {
		whole(a)[i] = ^whole(a)[i]
	}
}

func spoilNumbers(l []int) {
	for i := range whole(l) {
		whole(l)[i] = ^whole(l)[i]
	}
}

func spoil(x api.Tensor) {
	for _, a := range limbs(x) {
		spoilLimbs(a)
	}
	spoilNumbers(x.Shape)
	for i := range whole(x.Elems) {
		whole(x.Elems)[i] = api.Rat{Neg: !whole(x.Elems)[i].Neg, Num: api.Nat{4, 4}}
	}
}

func spoilAll(xs []api.Tensor, l []int) {
	for i, x := range xs {
		spoil(x)
		xs[i] = api.Tensor{Shape: api.Shape{9}}
	}
	spoilNumbers(l)
}

// eachCall gives every call all lists of tensors with all lists of numbers.
func eachCall(do func(c ofList, xs []api.Tensor, l []int)) {
	for _, c := range calls() {
		for _, xs := range givenTensors() {
			for _, l := range givenLists() {
				do(c, xs, l)
			}
		}
	}
}

func TestArgumentsStay(t *testing.T) {
	eachCall(func(c ofList, xs []api.Tensor, l []int) {
		xs, l = roomyTensors(xs), roomyList(l, 55)
		before := toldAll(xs, l)
		r, _ := c.do(xs, l)
		checkTold(t, c.name+" changes an argument", toldAll(xs, l), before)
		spoil(r)
		checkTold(t, c.name+": the arguments, after the result changed", toldAll(xs, l), before)
	})
}

func TestResultsAreNewMemory(t *testing.T) {
	eachCall(func(c ofList, xs []api.Tensor, l []int) {
		xs, l = roomyTensors(xs), roomyList(l, 55)
		first, e := c.do(xs, l)
		second, again := c.do(xs, l)
		checkError(t, c.name+": a second call", again, e)
		checkTensor(t, c.name+": a second call", second, first)
		want := told(first)
		spoil(second)
		checkTold(t, c.name+": a result, after that of another call changed", told(first), want)
		spoilAll(xs, l)
		checkTold(t, c.name+": a result, after the arguments changed", told(first), want)
	})
}

// No two lists of one result share memory either: of repeated elements, and of the zeros of a
// padding, each has limbs of its own.
func TestListsOfResultsAreApart(t *testing.T) {
	eachCall(func(c ofList, xs []api.Tensor, l []int) {
		checkApart(t, c, xs, l)
	})
	x := numbered(2)
	for _, c := range calls() {
		checkApart(t, c, []api.Tensor{x, x, x}, []int{0})
		checkApart(t, c, []api.Tensor{x}, []int{3, 2})
		checkApart(t, c, []api.Tensor{of(nil, "0")}, []int{4})
	}
}

func checkApart(t *testing.T, c ofList, xs []api.Tensor, l []int) {
	t.Helper()
	r, _ := c.do(xs, l)
	for i, a := range limbs(r) {
		others := slices.Delete(limbs(r), i, i+1)
		before := fmt.Sprint(r.Shape, others)
		spoilLimbs(a)
		checkTold(t, c.name+": another list", fmt.Sprint(r.Shape, others), before)
	}
}

// Elements that share limbs with each other are no reason for a result that does.
func TestSharedLimbs(t *testing.T) {
	side := api.Nat{1}
	one := api.Rat{Num: side, Den: side}
	shared := api.Tensor{Shape: api.Shape{2}, Elems: []api.Rat{one, one}}
	for _, c := range calls() {
		for _, l := range [][]int{{0}, {2}, {0, 2}, {0, 0}} {
			checkApart(t, c, []api.Tensor{shared, shared}, l)
		}
	}
	checkTold(t, "the shared limbs", fmt.Sprint(side), "[1]")
}

// One list may be the shape of the tensor too.
func TestOneListTwice(t *testing.T) {
	s := roomyList(api.Shape{1, 2}, 55)
	x := api.Tensor{Shape: s, Elems: counted(2)}
	before := fmt.Sprint(whole(s))
	for _, c := range []struct {
		name string
		do   func(x api.Tensor, s api.Shape) (api.Tensor, api.Errno)
	}{{"Reshape", move.Reshape}, {"Broadcast", move.Broadcast}} {
		got, e := c.do(x, s)
		checkCall(t, c.name+" to its own shape", got, e, x)
		spoil(got)
		checkTold(t, c.name+": the shape", fmt.Sprint(whole(s)), before)
	}
}

// nil and empty are the same.
func TestNilAndEmpty(t *testing.T) {
	eachCall(func(c ofList, xs []api.Tensor, l []int) {
		var ys []api.Tensor
		for _, x := range xs {
			y := api.Tensor{Shape: append(api.Shape{}, x.Shape...), Elems: []api.Rat{}}
			for _, a := range x.Elems {
				y.Elems = append(y.Elems, api.Rat{Neg: a.Neg, Num: append(api.Nat{}, a.Num...), Den: append(api.Nat{}, a.Den...)})
			}
			ys = append(ys, y)
		}
		got, e := c.do(ys, append([]int{}, l...))
		want, f := c.do(xs, slices.Clip(l))
		checkError(t, c.name, e, f)
		checkTensor(t, c.name, got, want)
	})
}

// P0.7

func TestAllCallsEnd(t *testing.T) {
	long := api.Rat{Neg: true, Num: append(make(api.Nat, 300), 1), Den: api.Nat{3}}
	ones := slices.Repeat([]int{1}, 100000)
	tensors := append(givenTensors(),
		[]api.Tensor{{Shape: make(api.Shape, 100000)}},
		[]api.Tensor{{Shape: ones, Elems: counted(1)}},
		[]api.Tensor{{Shape: api.Shape{math.MaxInt, math.MaxInt}, Elems: make([]api.Rat, 5000)}},
		[]api.Tensor{{Shape: api.Shape{math.MinInt, math.MinInt}, Elems: unfit()}},
		[]api.Tensor{{Shape: api.Shape{1 << 32, 1 << 32}}},
		[]api.Tensor{{Shape: api.Shape{2}, Elems: []api.Rat{long, long}}, numbered(1)},
		slices.Repeat([]api.Tensor{numbered(1)}, 10000),
		slices.Repeat([]api.Tensor{numbered(1, 1024)}, 10),
	)
	lists := append(givenLists(), make([]int, 100000), ones, slices.Repeat([]int{0, 1}, 100000), slices.Repeat([]int{math.MaxInt}, 1000),
		[]int{math.MaxInt, math.MaxInt, math.MaxInt, math.MaxInt}, []int{math.MinInt, math.MaxInt, math.MinInt, math.MaxInt})
	for _, c := range calls() {
		for _, xs := range tensors {
			for _, l := range lists {
				c.do(xs, l)
			}
		}
	}
}
