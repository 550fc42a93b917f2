package op_test

import (
	"math"
	"slices"
	"strings"
	"testing"

	"fluxion/api"
	"fluxion/op"
)

// call is a call for a version, a node and ranks, with the list that it returns.
type call struct {
	name string
	do   func(version int, n api.Node, ranks []int) []int
}

func calls() []call {
	return []call{
		{"Check", func(version int, n api.Node, _ []int) []int { return []int{int(op.Check(version, n))} }},
		{"Explicit", func(version int, n api.Node, ranks []int) []int { return op.Explicit(version, n, ranks...) }},
	}
}

// roomy returns a list with spare capacity behind it, so that an append to an argument shows.
func roomy(l []int) []int {
	r := slices.Concat(l, []int{77, 77, 77})
	return r[:len(l)]
}

func whole(l []int) []int { return l[:cap(l)] }

func spoil(l []int) {
	for i := range whole(l) {
		whole(l)[i] = ^whole(l)[i]
	}
}

func givenAttrs() [][]int {
	return [][]int{
		nil, {}, {0}, {1}, {2}, {3}, {-1}, {17}, {0, 1}, {1, 0}, {1, 1}, {2, 4}, {-4, 9}, {2, 0, 1}, {0, 1, 2, 3}, {3, 2, 1, 0}, {2, 3, 4}, {0, 1, 2, 3, 4, 5, 6, 7},
		{0, 0, 0, 0, 0, 0, 0, 0, 0}, {api.MaxAttr}, {-api.MaxAttr}, {api.MaxAttr + 1}, {math.MaxInt, math.MinInt}, {math.MinInt, math.MaxInt},
	}
}

func givenRanks() [][]int { return [][]int{nil, {}, {0}, {3}, {4}, {-1}, {5}, {2, 3, 4}} }

// eachCall gives every call all operations, in all versions, with all lists.
func eachCall(do func(c call, version int, n api.Node, ranks []int)) {
	for _, c := range calls() {
		for o := api.OpAdd - 1; o <= api.OpMean+1; o++ {
			for version := 0; version <= 4; version++ {
				for args := range 4 {
					for _, attrs := range givenAttrs() {
						for _, ranks := range givenRanks() {
							n := api.Node{Op: o, Args: roomy(make([]int, args)), Attrs: roomy(attrs)}
							do(c, version, n, roomy(ranks))
						}
					}
				}
			}
		}
	}
}

func checkList(t *testing.T, what string, got, want []int) {
	t.Helper()
	if !slices.Equal(got, want) {
		t.Errorf("%s: %v, want %v", what, got, want)
	}
}

// memory copies all numbers of the arguments, with what lies behind the ends of their lists.
func memory(n api.Node, ranks []int) []int {
	return slices.Concat([]int{len(n.Args), len(n.Attrs), len(ranks)}, whole(n.Args), whole(n.Attrs), whole(ranks))
}

func TestArgumentsStay(t *testing.T) {
	eachCall(func(c call, version int, n api.Node, ranks []int) {
		before := memory(n, ranks)
		r := c.do(version, n, ranks)
		checkList(t, c.name+" changes an argument", memory(n, ranks), before)
		spoil(r)
		checkList(t, c.name+": the arguments, after the result changed", memory(n, ranks), before)
	})
}

func TestResultsAreNewMemory(t *testing.T) {
	eachCall(func(c call, version int, n api.Node, ranks []int) {
		first := c.do(version, n, ranks)
		second := c.do(version, n, ranks)
		want := slices.Clone(first)
		checkList(t, c.name+": a second call", second, want)
		spoil(second)
		checkList(t, c.name+": a result, after that of another call changed", first, want)
		spoil(n.Args)
		spoil(n.Attrs)
		spoil(ranks)
		checkList(t, c.name+": a result, after the arguments changed", first, want)
		checkList(t, c.name+": a call after a result changed", op.Explicit(1, api.Node{Op: api.OpPow, Args: []int{0}}), []int{2})
	})
}

// One list may be the arguments, the attributes and the ranks.
func TestOneListThrice(t *testing.T) {
	l := roomy([]int{3})
	before := slices.Clone(whole(l))
	n := api.Node{Op: api.OpSum, Args: l, Attrs: l}
	checkNode(t, 2, n, api.OK)
	checkExplicit(t, 2, n, l, []int{3})
	checkExplicit(t, 2, api.Node{Op: api.OpSum, Args: l, Attrs: l[:0]}, l, []int{0, 1, 2})
	checkExplicit(t, 1, api.Node{Op: api.OpTranspose, Args: l, Attrs: l[:0]}, l, []int{2, 1, 0})
	checkList(t, "the list", whole(l), before)
}

// nil and empty are the same.
func TestNilAndEmpty(t *testing.T) {
	eachCall(func(c call, version int, n api.Node, ranks []int) {
		m := api.Node{Op: n.Op, Args: slices.Clip(append([]int(nil), n.Args...)), Attrs: append([]int(nil), n.Attrs...)}
		k := api.Node{Op: n.Op, Args: append([]int{}, n.Args...), Attrs: append([]int{}, n.Attrs...)}
		checkList(t, c.name, c.do(version, m, append([]int(nil), ranks...)), c.do(version, k, append([]int{}, ranks...)))
	})
}

// P0.7

func TestAllCallsEnd(t *testing.T) {
	numbers := []int{math.MinInt, -api.MaxAttr - 1, -1, 0, 1, 2, 3, 4, 20, 21, api.MaxAttr + 1, math.MaxInt}
	rising := make([]int, 100000)
	for i := range rising {
		rising[i] = i
	}
	long := [][]int{rising, make([]int, 100000), slices.Repeat([]int{1}, 100000), slices.Repeat([]int{math.MaxInt}, 1000), slices.Repeat([]int{math.MinInt}, 1000), slices.Repeat([]int{0, 1}, 50000)}
	for _, a := range numbers {
		for _, b := range numbers {
			long = append(long, []int{a, b}, []int{b, a, a, b})
		}
	}
	ops := append(strangers(), 1<<40)
	for _, k := range table() {
		ops = append(ops, k.op)
	}
	for _, o := range ops {
		op.Name(o)
		op.Arity(o)
		for _, version := range numbers {
			op.In(o, version)
			for _, l := range long {
				least, _ := op.Arity(o)
				n := api.Node{Op: o, Args: make([]int, least), Attrs: l}
				op.Check(version, n)
				op.Explicit(version, n, l...)
				op.Check(version, api.Node{Op: o, Args: l, Attrs: l})
				op.Explicit(version, api.Node{Op: o, Args: l}, l...)
			}
		}
	}
	op.Of(strings.Repeat("x", 1<<20))
}
