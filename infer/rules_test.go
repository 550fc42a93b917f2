package infer_test

import (
	"math"
	"slices"
	"testing"

	"fluxion/api"
	"fluxion/infer"
	"fluxion/op"
)

// roomy returns a list with spare capacity behind it, so that an append to an argument shows.
func roomy[T any](l []T, spare T) []T {
	r := slices.Concat(l, []T{spare, spare, spare})
	return r[:len(l)]
}

func whole[T any](l []T) []T { return l[:cap(l)] }

func spoil(l []int) {
	for i := range whole(l) {
		whole(l)[i] = ^whole(l)[i]
	}
}

func roomyShapes(shapes []api.Shape) []api.Shape {
	var r []api.Shape
	for _, s := range shapes {
		r = append(r, roomy(s, 77))
	}
	return roomy(r, api.Shape{5, 5})
}

// memory copies all numbers of the arguments, with what lies behind the ends of their lists.
func memory(n api.Node, shapes []api.Shape) []int {
	l := slices.Concat([]int{int(n.Op), len(n.Args), len(n.Attrs), len(shapes)}, whole(n.Args), whole(n.Attrs))
	for _, s := range whole(shapes) {
		l = slices.Concat(l, []int{len(s)}, whole(s))
	}
	return l
}

func checkList(t *testing.T, what string, got, want []int) {
	t.Helper()
	if !slices.Equal(got, want) {
		t.Errorf("%s: %v, want %v", what, got, want)
	}
}

func givenShapes() [][]api.Shape {
	given := [][]api.Shape{nil, {}}
	for _, in := range []string{"", "5", "2 3", "2 3 4", "2 3 4 5", "0", "1025", "1 1 1 1 1", ",", "5,5", "2 3,2 3", "2 3,3 4", "2 3,3 2", "2,2 0", "33 1,1 32", "2 3,3 4,4", "2 3,3 4,2 4", "2 3,3 4,3", "1,2,3,4,5,6,7,8", "2 3,2 5,2 7,2 1,2 2,2 3,2 4,2 9"} {
		given = append(given, lists(in))
	}
	return given
}

func givenAttrs() [][]int {
	return [][]int{nil, {}, {0}, {1}, {2}, {3}, {-1}, {6}, {0, 1}, {1, 0}, {1, 2}, {3, 2}, {2, 0, 1}, {3, 2, 1, 0}, {0, 1, 2, 3}, {5, 2, 3}, {1, 2, 0, 3}, {0, 1, 2, 1}, {0, 2000}, {0, 0, 0, 0, 1, 1}, {0, 1, 2, 3, 3, 4, 4, 5}, {math.MaxInt, math.MinInt}}
}

// eachCall gives all nodes all lists of shapes; the memory is new for each of them.
func eachCall(do func(version int, n api.Node, shapes []api.Shape)) {
	for o := api.OpAdd - 1; o <= api.OpMean+1; o++ {
		for version := 0; version <= 4; version++ {
			for _, attrs := range givenAttrs() {
				for _, shapes := range givenShapes() {
					n := api.Node{Op: o, Args: roomy(make([]int, len(shapes)), 66), Attrs: roomy(attrs, 55)}
					do(version, n, roomyShapes(shapes))
				}
			}
		}
	}
}

func TestArgumentsStay(t *testing.T) {
	eachCall(func(version int, n api.Node, shapes []api.Shape) {
		before := memory(n, shapes)
		s, _ := infer.Shape(version, n, shapes...)
		checkList(t, "Shape changes an argument", memory(n, shapes), before)
		spoil(s)
		checkList(t, "the arguments, after the result changed", memory(n, shapes), before)
		infer.Grows(version, n, shapes...)
		checkList(t, "Grows changes an argument", memory(n, shapes), before)
	})
}

func TestResultsAreNewMemory(t *testing.T) {
	eachCall(func(version int, n api.Node, shapes []api.Shape) {
		first, e := infer.Shape(version, n, shapes...)
		second, f := infer.Shape(version, n, shapes...)
		want := slices.Clone(first)
		checkList(t, "a second call", append(second, int(f)), append(slices.Clone(want), int(e)))
		spoil(second)
		checkList(t, "a result, after that of another call changed", first, want)
		spoil(n.Args)
		spoil(n.Attrs)
		for i, s := range shapes {
			spoil(s)
			shapes[i] = nil
		}
		checkList(t, "a result, after the arguments changed", first, want)
	})
}

// One list may be the arguments, the attributes and every shape.
func TestOneListForAll(t *testing.T) {
	l := roomy([]int{2, 1}, 77)
	before := slices.Clone(whole(l))
	for o, want := range map[api.Op]api.Shape{api.OpAdd: l, api.OpReshape: l, api.OpBroadcast: l} {
		n := api.Node{Op: o, Args: l[:knownOf(t, o).args], Attrs: l}
		if o == api.OpAdd {
			n.Attrs = l[:0]
		}
		s, e := infer.Shape(3, n, slices.Repeat([]api.Shape{l}, len(n.Args))...)
		checkList(t, "the shape of "+op.Name(o), append(s, int(e)), append(slices.Clone(want), int(api.OK)))
		spoil(s)
		checkList(t, "the list", whole(l), before)
	}
	in := slices.Repeat([]api.Shape{l}, api.MaxArgs)
	checkNode(t, 3, node(api.OpConcat, api.MaxArgs, l[1]), in, api.Shape{2, 8}, api.OK)
	checkNode(t, 1, node(api.OpConcat, api.MaxArgs, l[:0]...), in, api.Shape{16, 1}, api.OK)
	checkList(t, "the list", whole(l), before)
}

// Which references the arguments are is not looked at.
func TestArgumentsAreNotExamined(t *testing.T) {
	n := api.Node{Op: api.OpMatMul, Args: []int{math.MinInt, math.MaxInt}}
	checkNode(t, 3, n, lists("2 3,3 4"), api.Shape{2, 4}, api.OK)
}

// nil and empty are the same.
func TestNilAndEmpty(t *testing.T) {
	eachCall(func(version int, n api.Node, shapes []api.Shape) {
		m := api.Node{Op: n.Op, Args: append([]int{}, n.Args...), Attrs: append([]int{}, n.Attrs...)}
		k := api.Node{Op: n.Op, Args: append([]int(nil), n.Args...), Attrs: append([]int(nil), n.Attrs...)}
		empty, none := []api.Shape{}, []api.Shape(nil)
		for _, s := range shapes {
			empty = append(empty, append(api.Shape{}, s...))
			none = append(none, append(api.Shape(nil), s...))
		}
		s, e := infer.Shape(version, m, empty...)
		checkNode(t, version, k, none, s, e)
		if infer.Grows(version, m, empty...) != infer.Grows(version, k, none...) {
			t.Errorf("version %d: Grows of %v with the shapes %v", version, n, shapes)
		}
	})
}

// P0.7

func callAll(attrs [][]int, given [][]api.Shape) {
	for o := api.OpAdd - 1; o <= api.OpMean+1; o++ {
		for _, l := range attrs {
			for _, shapes := range given {
				for _, version := range []int{1, 3} {
					n := api.Node{Op: o, Args: make([]int, min(len(shapes), api.MaxArgs+1)), Attrs: l}
					infer.Shape(version, n, shapes...)
					infer.Grows(version, n, shapes...)
				}
			}
		}
	}
}

func TestAllCallsEnd(t *testing.T) {
	numbers := []int{math.MinInt, -1, 0, 1, 3, api.MaxAttr, api.MaxAttr + 1, math.MaxInt}
	ones := slices.Repeat([]int{1}, 100000)
	attrs := [][]int{ones, make([]int, 100000), slices.Repeat([]int{0, api.MaxAttr}, 4), slices.Repeat([]int{math.MaxInt}, 8), slices.Repeat([]int{math.MinInt}, 8)}
	given := [][]api.Shape{{ones}, {ones, ones, ones}, slices.Repeat([]api.Shape{{2}}, 10000), make([]api.Shape, 100000)}
	for _, a := range numbers {
		for _, b := range numbers {
			attrs = append(attrs, []int{a, b}, []int{a, b, b, a})
			given = append(given, []api.Shape{{a, b}}, []api.Shape{{2, 3}, {a, b}}, []api.Shape{{a, b}, {b, a}, {a}}, []api.Shape{{a, a, b, b}})
		}
	}
	callAll(attrs, givenShapes())
	callAll(givenAttrs(), given)
	infer.Shape(1, api.Node{})
	infer.Shape(math.MinInt, api.Node{}, given[3]...)
	infer.Grows(3, api.Node{Op: math.MaxInt, Args: ones, Attrs: ones}, given[2]...)
}
