package point_test

import (
	"fmt"
	"math"
	"slices"
	"testing"

	"fluxion/api"
	"fluxion/point"
)

// call is a call for two tensors, or for the first one alone.
type call struct {
	name    string
	isOfOne bool
	do      func(a, b api.Tensor) (api.Tensor, api.Errno)
}

func calls() []call {
	var list []call
	for _, c := range callsOfTwo() {
		list = append(list,
			call{c.name, false, c.do},
			call{c.name + " of one twice", true, func(a, b api.Tensor) (api.Tensor, api.Errno) { return c.do(a, a) }})
	}
	for _, c := range append(callsOfOne(), pow(-1), pow(api.MaxPow+1)) {
		list = append(list, call{c.name, true, func(a, b api.Tensor) (api.Tensor, api.Errno) { return c.do(a) }})
	}
	return append(list, call{"Scale by an element", false, func(a, b api.Tensor) (api.Tensor, api.Errno) {
		if len(b.Elems) == 0 {
			return point.Scale(a, api.Rat{})
		}
		return point.Scale(a, b.Elems[0])
	}})
}

// given are tensors that are valid, and some that are not.
func given() []api.Tensor {
	list := []api.Tensor{
		of(nil, "0"),
		of(nil, "-3/8"),
		row("2"),
		of(api.Shape{1, 1}, "-18446744073709551616/3"),
		row("1/2 -18446744073709551616"),
		row("0 5"),
		of(api.Shape{2, 2}, "1 2 3 4"),
		of(api.Shape{2, 2}, "0 -1/3 18446744073709551617/5 1"),
	}
	for _, e := range []api.Errno{api.ErrRat, api.ErrLimit, api.ErrShape} {
		list = append(list, broken()[e]...)
	}
	return slices.DeleteFunc(list, func(x api.Tensor) bool { return len(x.Elems) > 1000 })
}

// roomyList returns a list with spare capacity behind it, so that an append to an argument shows.
func roomyList[T any](l []T, spare T) []T {
	r := slices.Concat(l, []T{spare, spare, spare})
	return r[:len(l)]
}

func whole[T any](l []T) []T { return l[:cap(l)] }

func roomy(t api.Tensor) api.Tensor {
	r := api.Tensor{Shape: roomyList(t.Shape, 77)}
	for _, x := range t.Elems {
		r.Elems = append(r.Elems, api.Rat{Neg: x.Neg, Num: roomyList(x.Num, 0xABCD), Den: roomyList(x.Den, 0xABCD)})
	}
	r.Elems = roomyList(r.Elems, api.Rat{Neg: true, Num: api.Nat{5, 6}, Den: api.Nat{7}})
	return r
}

// told writes all memory of tensors, with what lies behind the ends of their lists.
func told(ts ...api.Tensor) string {
	text := ""
	for _, t := range ts {
		text += fmt.Sprintln(whole(t.Shape))
		for _, x := range whole(t.Elems) {
			text += fmt.Sprintln(x.Neg, len(x.Num), whole(x.Num), len(x.Den), whole(x.Den))
		}
	}
	return text
}

func checkTold(t *testing.T, what, got, want string) {
	t.Helper()
	if got != want {
		t.Errorf("%s:\n%s\nbefore:\n%s", what, got, want)
	}
}

// limbs lists the limbs of all elements, side by side.
func limbs(t api.Tensor) []api.Nat {
	var list []api.Nat
	for _, x := range t.Elems {
		list = append(list, x.Num, x.Den)
	}
	return list
}

func spoilLimbs(a api.Nat) {
	for i := range whole(a) {
		whole(a)[i] = ^whole(a)[i]
	}
}

func spoil(t api.Tensor) {
	for _, a := range limbs(t) {
		spoilLimbs(a)
	}
	for i := range whole(t.Shape) {
		whole(t.Shape)[i] = ^whole(t.Shape)[i]
	}
	for i := range whole(t.Elems) {
		whole(t.Elems)[i] = api.Rat{Neg: !whole(t.Elems)[i].Neg, Num: api.Nat{4, 4}}
	}
}

// eachPair gives every call every two of the tensors; a call of one gets each of them once.
func eachPair(list []api.Tensor, do func(c call, a, b api.Tensor)) {
	for _, c := range calls() {
		for _, a := range list {
			for _, b := range list {
				do(c, a, b)
				if c.isOfOne {
					break
				}
			}
		}
	}
}

func TestArgumentsStay(t *testing.T) {
	eachPair(given(), func(c call, a, b api.Tensor) {
		a, b = roomy(a), roomy(b)
		before := told(a, b)
		r, _ := c.do(a, b)
		checkTold(t, c.name+" changes an argument", told(a, b), before)
		spoil(r)
		checkTold(t, c.name+": the arguments, after the result changed", told(a, b), before)
	})
}

func TestResultsAreNewMemory(t *testing.T) {
	eachPair(given(), func(c call, a, b api.Tensor) {
		a, b = roomy(a), roomy(b)
		first, e := c.do(a, b)
		second, again := c.do(a, b)
		checkError(t, c.name+": a second call", again, e)
		checkTensor(t, c.name+": a second call", second, first)
		want := told(first)
		spoil(second)
		checkTold(t, c.name+": a result, after that of another call changed", told(first), want)
		spoil(a)
		spoil(b)
		checkTold(t, c.name+": a result, after the arguments changed", told(first), want)
	})
}

// The number of Scale is not kept either, and stays as it is.
func TestTheNumberStays(t *testing.T) {
	for _, x := range given() {
		for _, by := range append(unfit(), nums("1 -2/3 0")...) {
			number := roomy(api.Tensor{Elems: []api.Rat{by}})
			before := told(number)
			r, _ := point.Scale(x, number.Elems[0])
			want := told(r)
			checkTold(t, "Scale changes its number", told(number), before)
			spoil(number)
			checkTold(t, "Scale: the result, after the number changed", told(r), want)
		}
	}
}

// No two lists of one result share memory either: of equal elements each has limbs of its own.
func TestListsOfResultsAreApart(t *testing.T) {
	list := given()
	list = append(list, row("1 1 1"), row("0 0 -1 -1"))
	for _, c := range calls() {
		for _, x := range list {
			r, _ := c.do(x, x)
			for i, l := range limbs(r) {
				before := fmt.Sprint(r.Shape, slices.Delete(limbs(r), i, i+1))
				spoilLimbs(l)
				after := fmt.Sprint(r.Shape, slices.Delete(limbs(r), i, i+1))
				checkTold(t, c.name+": another list", after, before)
			}
		}
	}
}

// Elements that share limbs with each other are no reason for a result that does.
func TestSharedLimbs(t *testing.T) {
	side := api.Nat{1}
	one := api.Rat{Num: side, Den: side}
	shared := api.Tensor{Shape: api.Shape{2}, Elems: []api.Rat{one, one}}
	for _, c := range calls() {
		r, e := c.do(shared, shared)
		if e != api.OK {
			continue
		}
		want := fmt.Sprint(limbs(r)[1:])
		spoilLimbs(r.Elems[0].Num)
		checkTold(t, c.name+": another list", fmt.Sprint(limbs(r)[1:]), want)
	}
	checkTold(t, "the shared limbs", fmt.Sprint(side), "[1]")
}

// nil and empty are the same.
func TestNilAndEmpty(t *testing.T) {
	for _, x := range given() {
		y := api.Tensor{Shape: append(api.Shape{}, x.Shape...), Elems: []api.Rat{}}
		for _, n := range x.Elems {
			y.Elems = append(y.Elems, api.Rat{Neg: n.Neg, Num: append(api.Nat{}, n.Num...), Den: append(api.Nat{}, n.Den...)})
		}
		for _, c := range calls() {
			got, e := c.do(y, y)
			want, f := c.do(x, x)
			checkError(t, c.name, e, f)
			checkTensor(t, c.name, got, want)
			got, e = c.do(x, y)
			checkError(t, c.name, e, f)
			checkTensor(t, c.name, got, want)
		}
	}
}

// P0.7

func TestAllCallsEnd(t *testing.T) {
	long := api.Rat{Neg: true, Num: append(make(api.Nat, 300), 1), Den: api.Nat{3}}
	list := append(given(),
		api.Tensor{Shape: make(api.Shape, 100000)},
		api.Tensor{Shape: slices.Repeat(api.Shape{1}, 100000), Elems: counted(1)},
		api.Tensor{Shape: api.Shape{math.MaxInt, math.MaxInt}, Elems: make([]api.Rat, 5000)},
		api.Tensor{Shape: api.Shape{math.MinInt, math.MinInt}, Elems: unfit()},
		api.Tensor{Shape: api.Shape{1 << 32, 1 << 32}},
		api.Tensor{Shape: api.Shape{2}, Elems: []api.Rat{long, long}},
		api.Tensor{Elems: []api.Rat{long}},
	)
	eachPair(list, func(c call, a, b api.Tensor) { c.do(a, b) })
}
