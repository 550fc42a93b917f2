package infer_test

import (
	"math/rand/v2"
	"slices"
	"testing"

	"fluxion/api"
	"fluxion/fold"
	"fluxion/infer"
	"fluxion/move"
	"fluxion/op"
	"fluxion/point"
	"fluxion/rat"
)

// random is the same in every run.
func random() *rand.Rand { return rand.New(rand.NewPCG(12, 12)) }

// allLists returns all lists of up to a length with numbers from low to high.
func allLists(length, low, high int) [][]int {
	all := [][]int{nil}
	longest := all
	for range length {
		var next [][]int
		for _, l := range longest {
			for n := low; n <= high; n++ {
				next = append(next, append(slices.Clone(l), n))
			}
		}
		all = append(all, next...)
		longest = next
	}
	return all
}

func shapesUpTo(rank, high int) []api.Shape {
	var shapes []api.Shape
	for _, l := range allLists(rank, 1, high) {
		shapes = append(shapes, l)
	}
	return shapes
}

// count is given a shape that is valid but for its count.
func count(s api.Shape) int {
	n := 1
	for _, d := range s {
		n *= d
	}
	return n
}

// fits holds shapes against each other from their ends.
func fits(from, to api.Shape) bool {
	for i := 1; i <= len(from); i++ {
		if i > len(to) || from[len(from)-i] != 1 && from[len(from)-i] != to[len(to)-i] {
			return false
		}
	}
	return true
}

// tellOfPairs is what the table says of slice and pad: the pairs that hold, and the dimensions.
func tellOfPairs(x api.Shape, attrs []int, holds func(d, a, b int) bool, size func(d, a, b int) int) (bool, api.Shape) {
	if len(attrs) != 2*len(x) {
		return false, nil
	}
	s := slices.Clone(x)
	for i, d := range x {
		a, b := attrs[2*i], attrs[2*i+1]
		if !holds(d, a, b) {
			return false, nil
		}
		s[i] = size(d, a, b)
	}
	return true, s
}

func tellOfConcat(axis int, shapes []api.Shape) (bool, api.Shape) {
	x := shapes[0]
	if axis >= len(x) {
		return false, nil
	}
	s := slices.Clone(x)
	s[axis] = 0
	for _, y := range shapes {
		for i := range y {
			if i >= len(x) || i != axis && y[i] != x[i] {
				return false, nil
			}
		}
		if len(y) < len(x) {
			return false, nil
		}
		s[axis] += y[axis]
	}
	return true, s
}

func tellOfProduct(x, y api.Shape) (bool, api.Shape) {
	if len(x) != 2 || len(y) != 2 || y[0] != x[1] {
		return false, nil
	}
	return true, api.Shape{x[0], y[1]}
}

// tell is the chapter's table, read a second time, for explicit attributes and valid shapes: whether
// the condition holds, and the shape. For OpGemm the third shape is left out.
func tell(o api.Op, attrs []int, shapes []api.Shape) (bool, api.Shape) {
	x := shapes[0]
	switch o {
	case api.OpAdd, api.OpSub, api.OpMul, api.OpDiv:
		return slices.Equal(x, shapes[1]), x
	case api.OpMatMul, api.OpGemm:
		return tellOfProduct(x, shapes[1])
	case api.OpTranspose:
		var s api.Shape
		for _, n := range attrs {
			s = append(s, slices.Concat(x, make(api.Shape, api.MaxRank))[n])
		}
		return len(x) == len(attrs), s
	case api.OpReshape:
		return count(attrs) == count(x), attrs
	case api.OpBroadcast:
		return fits(x, attrs), attrs
	case api.OpSum, api.OpMean:
		var s api.Shape
		for i, d := range x {
			if !slices.Contains(attrs, i) {
				s = append(s, d)
			}
		}
		return len(attrs) == 0 || slices.Max(attrs) < len(x), s
	case api.OpSlice:
		return tellOfPairs(x, attrs, func(d, _, b int) bool { return b <= d }, func(_, a, b int) int { return b - a })
	case api.OpPad:
		return tellOfPairs(x, attrs, func(_, _, _ int) bool { return true }, func(d, a, b int) int { return d + a + b })
	case api.OpConcat:
		return tellOfConcat(attrs[0], shapes)
	}
	return true, x
}

func told(o api.Op, attrs []int, shapes []api.Shape) (api.Shape, api.Errno) {
	holds, s := tell(o, attrs, shapes)
	switch {
	case !holds:
		return nil, api.ErrShape
	case count(s) > api.MaxElems:
		return nil, api.ErrLimit
	case o == api.OpGemm && !fits(shapes[2], s):
		return nil, api.ErrShape
	}
	return s, api.OK
}

func ones(s api.Shape) api.Tensor {
	x := api.Tensor{Shape: s}
	for range count(s) {
		x.Elems = append(x.Elems, rat.Int(1))
	}
	return x
}

// ran is what the layers 8 to 10 return for tensors of these shapes.
func ran(o api.Op, attrs []int, shapes []api.Shape) (api.Tensor, api.Errno) {
	var xs []api.Tensor
	for _, s := range shapes {
		xs = append(xs, ones(s))
	}
	two := map[api.Op]func(x, y api.Tensor) (api.Tensor, api.Errno){api.OpAdd: point.Add, api.OpSub: point.Sub, api.OpMul: point.Mul, api.OpDiv: point.Div, api.OpMatMul: fold.MatMul}
	one := map[api.Op]func(x api.Tensor) (api.Tensor, api.Errno){api.OpNeg: point.Neg, api.OpRelu: point.Relu, api.OpStep: point.Step}
	of := map[api.Op]func(x api.Tensor, l []int) (api.Tensor, api.Errno){api.OpTranspose: move.Transpose, api.OpSlice: move.Slice, api.OpPad: move.Pad}
	to := map[api.Op]func(x api.Tensor, s api.Shape) (api.Tensor, api.Errno){api.OpReshape: move.Reshape, api.OpBroadcast: move.Broadcast}
	over := map[api.Op]func(x api.Tensor, axes ...int) (api.Tensor, api.Errno){api.OpSum: fold.Sum, api.OpMean: fold.Mean}
	x := xs[0]
	switch {
	case two[o] != nil:
		return two[o](x, xs[1])
	case one[o] != nil:
		return one[o](x)
	case of[o] != nil:
		return of[o](x, attrs)
	case to[o] != nil:
		return to[o](x, attrs)
	case over[o] != nil:
		return over[o](x, attrs...)
	case o == api.OpSquare:
		return point.Mul(x, x)
	case o == api.OpGemm:
		return fold.Gemm(x, xs[1], xs[2])
	case o == api.OpPow:
		return point.Pow(x, attrs[0])
	case o == api.OpScale:
		r, _ := rat.Frac(int64(attrs[0]), int64(attrs[1]))
		return point.Scale(x, r)
	}
	return move.Concat(attrs[0], xs...)
}

func checkRun(t *testing.T, o api.Op, attrs []int, shapes []api.Shape, want api.Shape, wantE api.Errno) {
	t.Helper()
	x, e := ran(o, attrs, shapes)
	if (e == api.OK) != (wantE == api.OK) || !slices.Equal(x.Shape, want) {
		t.Errorf("%s with the attributes %v, executed with tensors of the shapes %v: %v, error %d; its shape: %v, error %d", op.Name(o), attrs, shapes, x.Shape, e, want, wantE)
	}
}

// checkLaws is given a node that is valid in a version, and valid shapes.
func checkLaws(t *testing.T, version int, n api.Node, shapes []api.Shape) {
	t.Helper()
	m := api.Node{Op: n.Op, Args: n.Args, Attrs: op.Explicit(version, n, len(shapes[0]))}
	want, e := told(m.Op, m.Attrs, shapes)
	checkNode(t, version, n, shapes, want, e)
	for later := version; later <= 3; later++ {
		if op.In(n.Op, later) {
			checkNode(t, later, m, shapes, want, e)
		}
	}
	given := 0
	for _, s := range shapes {
		given += count(s)
	}
	if grows := infer.Grows(version, n, shapes...); grows != (e == api.OK && count(want) > given) {
		t.Errorf("version %d: Grows of %s with the attributes %v and the shapes %v: %t", version, op.Name(n.Op), n.Attrs, shapes, grows)
	}
	checkRun(t, m.Op, m.Attrs, shapes, want, e)
}

// eachVersion leaves out the versions in which the node is not valid.
func eachVersion(n api.Node, do func(version int)) {
	for version := 1; version <= 3; version++ {
		if op.Check(version, n) == api.OK {
			do(version)
		}
	}
}

// P12.1, P12.2 and P12.3, for all small shapes and attributes

func TestOneSmallShape(t *testing.T) {
	shapes := append(shapesUpTo(2, 3), lists("1 1 1,2 1 3,3 2 1,1 2 2,2 3 2,1 1 1 1,2 1 3 1,2 3 1 2,3 2 2 3")...)
	attrs := append(allLists(4, 0, 3), allLists(2, -1, 5)...)
	for _, k := range table() {
		for _, l := range attrs {
			n := node(k.op, 1, l...)
			eachVersion(n, func(version int) {
				for _, s := range shapes {
					checkLaws(t, version, n, []api.Shape{s})
				}
			})
		}
	}
}

func TestTwoSmallShapes(t *testing.T) {
	shapes := append(shapesUpTo(2, 3), lists("1 1 1,2 1 3,3 1 2,2 3 1,1 2 3,1 1 1 1,2 3 1 2,2 3 2 2")...)
	for _, k := range table() {
		for _, l := range allLists(1, 0, 3) {
			n := node(k.op, 2, l...)
			eachVersion(n, func(version int) {
				for _, x := range shapes {
					for _, y := range shapes {
						checkLaws(t, version, n, []api.Shape{x, y})
					}
				}
			})
		}
	}
}

func TestThreeSmallShapes(t *testing.T) {
	matrices := append(shapesUpTo(2, 2), lists("1 3,3 1,3 2,2 3,1 1 1,1 2 2,2 2 1")...)
	added := append(shapesUpTo(2, 3), lists("1 1 1,1 2 2,1 1 2 2")...)
	n := node(api.OpGemm, 3)
	for _, x := range matrices {
		for _, y := range matrices {
			for _, z := range added {
				checkLaws(t, 1, n, []api.Shape{x, y, z})
				checkLaws(t, 2, n, []api.Shape{x, y, z})
			}
		}
	}
}

// anyShape returns a valid shape, which often has just MaxElems elements, or nearly as many.
func anyShape(r *rand.Rand) api.Shape {
	var s api.Shape
	for range r.IntN(api.MaxRank + 1) {
		d := []int{1, 2, 3, 4, 5, 7, 8, 16, 31, 32, 33, 64, 128, 511, 1023, 1024}[r.IntN(16)]
		if count(s)*d <= api.MaxElems {
			s = append(s, d)
		}
	}
	return s
}

// near changes a dimension, or the rank, now and then.
func near(r *rand.Rand, s api.Shape) api.Shape {
	s = slices.Clone(s)
	switch i := r.IntN(len(s) + 1); r.IntN(8) {
	case 0:
		s = slices.Insert(s, i, r.IntN(2)+1)
	case 1:
		s = slices.Delete(s, i, min(i+1, len(s)))
	case 2:
		if i < len(s) {
			s[i] = r.IntN(s[i]+2) + 1
		}
	}
	if len(s) > api.MaxRank || count(s) > api.MaxElems {
		return nil
	}
	return s
}

// anyPairs returns pairs for the dimensions of a shape near the given one.
func anyPairs(r *rand.Rand, s api.Shape, pair func(d int) []int) []int {
	var l []int
	for _, d := range near(r, s) {
		l = append(l, pair(d)...)
	}
	return l
}

// anyAttrs returns attributes that a node with a first argument of the shape may have.
func anyAttrs(r *rand.Rand, o api.Op, s api.Shape) []int {
	switch o {
	case api.OpPow, api.OpConcat:
		return []int{r.IntN(api.MaxRank)}
	case api.OpScale:
		return []int{r.IntN(9) - 4, 1}
	case api.OpTranspose:
		return r.Perm(len(near(r, s)))
	case api.OpReshape:
		l := near(r, s)
		r.Shuffle(len(l), func(i, j int) { l[i], l[j] = l[j], l[i] })
		return l
	case api.OpBroadcast:
		return near(r, append(slices.Repeat([]int{2}, r.IntN(2)), s...))
	case api.OpSum, api.OpMean:
		l := r.Perm(api.MaxRank)[r.IntN(api.MaxRank+1):]
		slices.Sort(l)
		return l
	case api.OpSlice:
		return anyPairs(r, s, func(d int) []int {
			from := r.IntN(d)
			return []int{from, from + 1 + r.IntN(d-from)}
		})
	case api.OpPad:
		return anyPairs(r, s, func(int) []int { return []int{r.IntN(2) * r.IntN(3), r.IntN(2)} })
	}
	return nil
}

// anyShapes returns shapes for so many arguments. Those of products often fit each other.
func anyShapes(r *rand.Rand, o api.Op, args int) []api.Shape {
	shapes := []api.Shape{anyShape(r)}
	for len(shapes) < args {
		shapes = append(shapes, near(r, shapes[0]))
	}
	if o == api.OpMatMul || o == api.OpGemm {
		a, b, c := r.IntN(40)+1, r.IntN(4)+1, r.IntN(40)+1
		shapes[0], shapes[1] = near(r, api.Shape{a, b}), near(r, api.Shape{b, c})
		if args == 3 {
			shapes[2] = near(r, api.Shape{[]int{1, a}[r.IntN(2)], c})
		}
	}
	return shapes
}

func TestGreatShapes(t *testing.T) {
	r := random()
	codes := map[api.Errno]int{}
	for range 200 {
		for _, k := range table() {
			args := k.args
			if k.op == api.OpConcat {
				args = r.IntN(api.MaxArgs) + 1
			}
			shapes := anyShapes(r, k.op, args)
			n := node(k.op, args, anyAttrs(r, k.op, shapes[0])...)
			eachVersion(n, func(version int) {
				_, e := infer.Shape(version, n, shapes...)
				codes[e]++
				if version == k.until {
					checkLaws(t, version, n, shapes)
				}
			})
		}
	}
	if codes[api.OK] < 1000 || codes[api.ErrShape] < 1000 || codes[api.ErrLimit] < 100 {
		t.Errorf("the calls are not of all kinds: %v", codes)
	}
}

// Shapes that were inferred are arguments again: the dimensions that were dropped, cut or added come
// back.
func TestThereAndBack(t *testing.T) {
	for _, s := range shapesUpTo(api.MaxRank, 3) {
		forward := make([]int, len(s))
		for i := range s {
			forward[i] = i
		}
		backward := slices.Clone(forward)
		slices.Reverse(backward)
		reversed, _ := infer.Shape(3, node(api.OpTranspose, 1, backward...), s)
		checkNode(t, 1, node(api.OpTranspose, 1), []api.Shape{s}, reversed, api.OK)
		checkNode(t, 3, node(api.OpTranspose, 1, backward...), []api.Shape{reversed}, s, api.OK)
		checkNode(t, 3, node(api.OpReshape, 1, s...), []api.Shape{reversed}, s, api.OK)
		checkNode(t, 3, node(api.OpSum, 1, forward...), []api.Shape{s}, nil, api.OK)
		checkNode(t, 3, node(api.OpBroadcast, 1, s...), []api.Shape{nil}, s, api.OK)
		var pads, cuts []int
		for i, d := range s {
			pads = append(pads, i%2, 1)
			cuts = append(cuts, i%2, i%2+d)
		}
		padded, _ := infer.Shape(3, node(api.OpPad, 1, pads...), s)
		checkNode(t, 3, node(api.OpSlice, 1, cuts...), []api.Shape{padded}, s, api.OK)
	}
}
