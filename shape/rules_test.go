package shape_test

import (
	"math"
	"slices"
	"testing"

	"fluxion/api"
	"fluxion/shape"
)

// call is a call for two lists, of which it may use one alone, with the list that it returns.
type call struct {
	name string
	do   func(a, b []int) []int
}

func calls() []call {
	list := []call{
		{"May", func(a, b []int) []int { shape.May(a); return nil }},
		{"Count", func(a, b []int) []int { shape.Count(a); return nil }},
		{"Same", func(a, b []int) []int { shape.Same(a, b); return nil }},
		{"Strides", func(a, b []int) []int { return shape.Strides(a) }},
		{"Offset", func(a, b []int) []int { shape.Offset(a, b...); return nil }},
		{"Inverse", func(a, b []int) []int { r, _ := shape.Inverse(a); return r }},
		{"Fits", func(a, b []int) []int { shape.Fits(a, b); return nil }},
		{"Grown", func(a, b []int) []int { return shape.Grown(a, b) }},
		{"Drop", func(a, b []int) []int { return shape.Drop(a, b...) }},
		{"Ones", func(a, b []int) []int { return shape.Ones(a, b...) }},
	}
	for _, n := range []int{math.MinInt, -1, 0, 1, 3, 4, math.MaxInt} {
		list = append(list,
			call{"Index", func(a, b []int) []int { r, _ := shape.Index(a, n); return r }},
			call{"Perm", func(a, b []int) []int { shape.Perm(a, n); return nil }},
			call{"Axes", func(a, b []int) []int { shape.Axes(a, n); return nil }})
	}
	return list
}

// given are lists that are shapes, indices, permutations or axes, and some that are nothing.
func given() [][]int {
	return [][]int{
		nil, {}, {0}, {1}, {4}, {-1}, {1, 0}, {0, 2}, {3, 4}, {2, 0, 1}, {2, 3, 4}, {1, 1, 4}, {1, 2, 3},
		{1, 0, 2, 3}, {4, 4, 8, 8}, {2, 2, 2, 2}, {2, 0, 7, 0}, {1, 1, 1, 1, 1}, {2000},
		{math.MaxInt, math.MaxInt}, {math.MinInt, 1},
	}
}

// roomy returns a list with spare capacity behind it, so that an append to an argument shows.
func roomy(l []int) []int {
	r := make([]int, len(l), len(l)+5)
	copy(r, l)
	for i := len(l); i < cap(r); i++ {
		whole(r)[i] = 77
	}
	return r
}

func whole(l []int) []int { return l[:cap(l)] }

func fill(l []int) {
	for i := range whole(l) {
		whole(l)[i] = ^whole(l)[i]
	}
}

func TestArgumentsStay(t *testing.T) {
	for _, c := range calls() {
		for _, x := range given() {
			for _, y := range given() {
				a, b := roomy(x), roomy(y)
				beforeA, beforeB := slices.Clone(whole(a)), slices.Clone(whole(b))
				r := c.do(a, b)
				checkList(t, c.name+": the first argument", whole(a), beforeA)
				checkList(t, c.name+": the second argument", whole(b), beforeB)
				fill(r)
				checkList(t, c.name+": the first argument, after the result changed", whole(a), beforeA)
				checkList(t, c.name+": the second argument, after the result changed", whole(b), beforeB)
			}
		}
	}
}

func TestResultsAreNewMemory(t *testing.T) {
	for _, c := range calls() {
		for _, x := range given() {
			for _, y := range given() {
				a, b := roomy(x), roomy(y)
				first, second := c.do(a, b), c.do(a, b)
				want := slices.Clone(first)
				checkList(t, c.name+": a second call", second, want)
				fill(second)
				fill(a)
				fill(b)
				checkList(t, c.name+": a result, after all else changed", first, want)
			}
		}
	}
}

// One list may be both arguments.
func TestOneListTwice(t *testing.T) {
	s := roomy([]int{1, 3, 2})
	before := slices.Clone(whole(s))
	checkList(t, "Drop of itself", shape.Drop(s, s...), []int{1})
	checkList(t, "Ones of itself", shape.Ones(s, s...), []int{1, 1, 1})
	checkError(t, "Fits of itself", shape.Fits(s, s), api.OK)
	checkList(t, "Grown of itself", shape.Grown(s, s), nil)
	if n, e := shape.Offset(s, s...); n != 0 || e != api.ErrRange {
		t.Errorf("Offset of itself: %d, error %d", n, e)
	}
	if !shape.Same(s, s) || shape.Same(s, s[:2]) {
		t.Error("Same of itself")
	}
	checkList(t, "the list", whole(s), before)
}

// nil and empty are the same.
func TestNilAndEmpty(t *testing.T) {
	for _, c := range calls() {
		for _, l := range given() {
			checkList(t, c.name, c.do(nil, l), c.do([]int{}, l))
			checkList(t, c.name, c.do(l, nil), c.do(l, []int{}))
		}
	}
	for _, s := range []api.Shape{nil, {}} {
		checkError(t, "May", shape.May(s), api.OK)
		if n := shape.Count(s); n != 1 {
			t.Errorf("Count: %d", n)
		}
		if n, e := shape.Offset(s); n != 0 || e != api.OK {
			t.Errorf("Offset: %d, error %d", n, e)
		}
		l, e := shape.Index(s, 0)
		checkError(t, "Index", e, api.OK)
		checkList(t, "Index", l, nil)
	}
}

// P0.7

func TestAllCallsEnd(t *testing.T) {
	odd := append(given(),
		make([]int, 100000),
		slices.Repeat([]int{1}, 100000),
		slices.Repeat([]int{math.MaxInt}, 1000),
		slices.Repeat([]int{math.MinInt, math.MaxInt}, 1000),
	)
	for _, a := range odd {
		for _, b := range odd {
			for _, c := range calls() {
				c.do(a, b)
			}
		}
	}
}

// A rank that no list has must be refused without room for it.
func TestGreatRanksAreRefusedAtOnce(t *testing.T) {
	for _, rank := range []int{1 << 40, math.MaxInt - 1, math.MaxInt} {
		checkError(t, "Perm", shape.Perm([]int{0, 1}, rank), api.ErrAttr)
		checkError(t, "Axes", shape.Axes([]int{0, 1}, rank), api.OK)
		checkError(t, "Axes", shape.Axes([]int{0, rank}, rank), api.ErrAttr)
	}
}

// Many dimensions and many axes must not be held against each other one by one.
func TestManyDimensionsAndAxes(t *testing.T) {
	const n = 1 << 20
	s := make(api.Shape, n)
	axes := make([]int, n)
	for i := range n {
		s[i] = i + 5
		axes[i] = n - 2*i
	}
	// The axes are all even numbers, from the one that is no dimension down to below 0.
	drop, ones := shape.Drop(s, axes...), shape.Ones(s, axes...)
	if len(drop) != n/2 || len(ones) != n {
		t.Fatalf("%d and %d dimensions", len(drop), len(ones))
	}
	for i, d := range drop {
		if odd := 2*i + 1; d != s[odd] || ones[odd] != d || ones[2*i] != 1 {
			t.Fatalf("dimension %d: %d dropped, %d and %d", i, d, ones[2*i], ones[odd])
		}
	}
}
