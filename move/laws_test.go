package move_test

import (
	"fmt"
	"math/rand/v2"
	"slices"
	"testing"

	"fluxion/api"
	"fluxion/move"
	"fluxion/rat"
	"fluxion/shape"
	"fluxion/tensor"
)

// random is the same in every run.
func random() *rand.Rand { return rand.New(rand.NewPCG(9, 9)) }

// anyTensor returns a valid tensor; many of its elements are 0.
func anyTensor(r *rand.Rand, s api.Shape) api.Tensor {
	x := api.Tensor{Shape: s}
	for range count(s) {
		x.Elems = append(x.Elems, num(fmt.Sprintf("%d/%d", (r.IntN(4)-1)*r.IntN(1<<40), r.IntN(1<<36)+1)))
	}
	return x
}

// lists returns all lists of a length with numbers from low to high.
func lists(length, low, high int) [][]int {
	all := [][]int{nil}
	for range length {
		var next [][]int
		for _, l := range all {
			for n := low; n <= high; n++ {
				next = append(next, append(slices.Clone(l), n))
			}
		}
		all = next
	}
	return all
}

// smallShapes have dimensions from 1 to 3.
func smallShapes() []api.Shape {
	var list []api.Shape
	for rank := range api.MaxRank + 1 {
		for _, l := range lists(rank, 1, 3) {
			list = append(list, l)
		}
	}
	return list
}

func perms(rank int) [][]int {
	return slices.DeleteFunc(lists(rank, 0, rank-1), func(p []int) bool {
		return len(slices.Compact(slices.Sorted(slices.Values(p)))) < rank
	})
}

// inOrder lists all indices of a shape as the definition orders them.
func inOrder(s api.Shape) [][]int {
	all := [][]int{nil}
	for _, d := range s {
		var next [][]int
		for _, l := range all {
			for n := range d {
				next = append(next, append(slices.Clone(l), n))
			}
		}
		all = next
	}
	return all
}

func placeOf(s api.Shape, index []int) int {
	place := 0
	for i, d := range s {
		place = place*d + index[i]
	}
	return place
}

// spread puts each element of a tensor to where the closure says in a tensor of zeros, or nowhere.
// So it goes from the elements to the result, not from the result to the elements.
func spread(into, x api.Tensor, where func(index []int) ([]int, bool)) api.Tensor {
	for place, index := range inOrder(x.Shape) {
		if to, ok := where(index); ok {
			into.Elems[placeOf(into.Shape, to)] = x.Elems[place]
		}
	}
	return into
}

func zeros(s api.Shape) api.Tensor {
	return api.Tensor{Shape: s, Elems: slices.Repeat(of(nil, "0").Elems, count(s))}
}

// good returns the result of a call that has no error, if it is valid.
func good(t *testing.T) func(x api.Tensor, e api.Errno) api.Tensor {
	return func(x api.Tensor, e api.Errno) api.Tensor {
		t.Helper()
		checkError(t, "a call", e, api.OK)
		checkError(t, "May of a result", tensor.May(x), api.OK)
		return x
	}
}

func transposed(x api.Tensor, p []int) api.Tensor {
	s := make(api.Shape, len(p))
	for i, n := range p {
		s[i] = x.Shape[n]
	}
	return spread(zeros(s), x, func(index []int) ([]int, bool) {
		to := make([]int, len(p))
		for i, n := range p {
			to[i] = index[n]
		}
		return to, true
	})
}

func TestAllTransposes(t *testing.T) {
	r := random()
	for _, s := range smallShapes() {
		for _, p := range perms(len(s)) {
			x := anyTensor(r, s)
			got, e := move.Transpose(x, p)
			checkCall(t, fmt.Sprint("Transpose by ", p, " of ", s), got, e, transposed(x, p))
		}
	}
}

func TestAllReshapes(t *testing.T) {
	r, list := random(), smallShapes()
	for _, s := range list {
		x := anyTensor(r, s)
		for _, to := range list {
			got, e := move.Reshape(x, to)
			call := fmt.Sprint("Reshape to ", to, " of ", s)
			if count(s) == count(to) {
				checkCall(t, call, got, e, api.Tensor{Shape: to, Elems: x.Elems})
				checkTensor(t, call+" and back", good(t)(move.Reshape(got, s)), x)
				continue
			}
			checkNone(t, call, got, e, api.ErrShape)
		}
	}
}

// broadcasted repeats the last dimension first, one dimension after the other.
func broadcasted(x api.Tensor, s api.Shape) (api.Tensor, bool) {
	if len(x.Shape) > len(s) {
		return api.Tensor{}, false
	}
	from := slices.Concat(slices.Repeat(api.Shape{1}, len(s)-len(x.Shape)), x.Shape)
	elems := x.Elems
	inner := 1
	for i := len(s) - 1; i >= 0; i-- {
		if from[i] != s[i] {
			if from[i] != 1 {
				return api.Tensor{}, false
			}
			var all []api.Rat
			for part := range slices.Chunk(elems, inner) {
				all = append(all, slices.Repeat(part, s[i])...)
			}
			elems = all
		}
		inner *= s[i]
	}
	return api.Tensor{Shape: s, Elems: elems}, true
}

func TestAllBroadcasts(t *testing.T) {
	r, list := random(), smallShapes()
	for _, s := range list {
		x := anyTensor(r, s)
		for _, to := range list {
			got, e := move.Broadcast(x, to)
			call := fmt.Sprint("Broadcast to ", to, " of ", s)
			if want, ok := broadcasted(x, to); ok {
				checkCall(t, call, got, e, want)
				continue
			}
			checkNone(t, call, got, e, api.ErrShape)
		}
	}
}

// cutError asks for each error by itself.
func cutError(s api.Shape, cuts []int) api.Errno {
	if len(cuts) != 2*len(s) {
		return api.ErrAttr
	}
	for c := range slices.Chunk(cuts, 2) {
		if c[0] < 0 || c[0] >= c[1] {
			return api.ErrAttr
		}
	}
	for i, d := range s {
		if cuts[2*i+1] > d {
			return api.ErrShape
		}
	}
	return api.OK
}

func cut(x api.Tensor, cuts []int) api.Tensor {
	s := slices.Clone(x.Shape)
	for i := range s {
		s[i] = cuts[2*i+1] - cuts[2*i]
	}
	return spread(zeros(s), x, func(index []int) ([]int, bool) {
		to := slices.Clone(index)
		for i := range to {
			to[i] -= cuts[2*i]
			if to[i] < 0 || to[i] >= s[i] {
				return nil, false
			}
		}
		return to, true
	})
}

func checkCut(t *testing.T, x api.Tensor, cuts []int) {
	t.Helper()
	got, e := move.Slice(x, cuts)
	call := fmt.Sprint("Slice by ", cuts, " of ", x.Shape)
	if want := cutError(x.Shape, cuts); want != api.OK {
		checkNone(t, call, got, e, want)
		return
	}
	checkCall(t, call, got, e, cut(x, cuts))
}

// Every list of numbers from below 0 to beyond the dimensions is a list of pairs or an error.
func TestAllNearCuts(t *testing.T) {
	r := random()
	for _, s := range []api.Shape{nil, {1}, {4}, {2, 3}, {3, 1}} {
		x := anyTensor(r, s)
		for length := range 6 {
			for _, cuts := range lists(length, -1, 4) {
				checkCut(t, x, cuts)
			}
		}
	}
}

// anyCuts returns pairs for which there is a slice.
func anyCuts(r *rand.Rand, s api.Shape) []int {
	var cuts []int
	for _, d := range s {
		first := r.IntN(d)
		cuts = append(cuts, first, first+1+r.IntN(d-first))
	}
	return cuts
}

func anyPads(r *rand.Rand, s api.Shape) []int {
	var pads []int
	for range 2 * len(s) {
		pads = append(pads, r.IntN(3)*r.IntN(2))
	}
	return pads
}

func TestSlicesOfAllSmallShapes(t *testing.T) {
	r := random()
	for _, s := range smallShapes() {
		for range 10 {
			checkCut(t, anyTensor(r, s), anyCuts(r, s))
		}
	}
}

func paddedShape(s api.Shape, pads []int) api.Shape {
	s = slices.Clone(s)
	for i := range s {
		s[i] += pads[2*i] + pads[2*i+1]
	}
	return s
}

func padded(x api.Tensor, pads []int) api.Tensor {
	return spread(zeros(paddedShape(x.Shape, pads)), x, func(index []int) ([]int, bool) {
		to := slices.Clone(index)
		for i := range to {
			to[i] += pads[2*i]
		}
		return to, true
	})
}

func checkPad(t *testing.T, x api.Tensor, pads []int) {
	t.Helper()
	got, e := move.Pad(x, pads)
	call := fmt.Sprint("Pad by ", pads, " of ", x.Shape)
	isBelow := func(n int) bool { return n < 0 }
	switch {
	case len(pads) != 2*len(x.Shape) || slices.ContainsFunc(pads, isBelow):
		checkNone(t, call, got, e, api.ErrAttr)
	case count(paddedShape(x.Shape, pads)) > api.MaxElems:
		checkNone(t, call, got, e, api.ErrLimit)
	default:
		checkCall(t, call, got, e, padded(x, pads))
	}
}

func TestAllNearPads(t *testing.T) {
	r := random()
	for _, s := range []api.Shape{nil, {1}, {4}, {2, 3}, {3, 1}} {
		x := anyTensor(r, s)
		for length := range 6 {
			for _, pads := range lists(length, -1, 3) {
				checkPad(t, x, pads)
			}
		}
	}
}

func TestPadsOfAllSmallShapes(t *testing.T) {
	r := random()
	for _, s := range smallShapes() {
		for range 5 {
			checkPad(t, anyTensor(r, s), anyPads(r, s))
		}
	}
}

// Around the limit, every number of elements of one dimension is held against it.
func TestPadsNearTheLimit(t *testing.T) {
	for _, s := range []api.Shape{{1}, {1000}, {3, 5}, {2, 1, 7}, {1, 2, 1, 2}} {
		x := numbered(s...)
		for i, d := range s {
			room := api.MaxElems / (count(s) / d)
			for most := room - 1; most <= room+1; most++ {
				pads := make([]int, 2*len(s))
				pads[2*i] = (most - d) / 3
				pads[2*i+1] = most - d - pads[2*i]
				checkPad(t, x, pads)
			}
		}
	}
}

// anyParts returns tensors that differ along one axis at most.
func anyParts(r *rand.Rand, s api.Shape, axis int) []api.Tensor {
	var xs []api.Tensor
	for range 1 + r.IntN(4) {
		s = slices.Clone(s)
		s[axis] = 1 + r.IntN(3)
		xs = append(xs, anyTensor(r, s))
	}
	return xs
}

func joined(axis int, xs []api.Tensor) api.Tensor {
	s := slices.Clone(xs[0].Shape)
	s[axis] = 0
	for _, x := range xs {
		s[axis] += x.Shape[axis]
	}
	into, ahead := zeros(s), 0
	for _, x := range xs {
		into = spread(into, x, func(index []int) ([]int, bool) {
			to := slices.Clone(index)
			to[axis] += ahead
			return to, true
		})
		ahead += x.Shape[axis]
	}
	return into
}

// eachParts gives the parts of concatenations of all small shapes.
func eachParts(do func(axis int, xs []api.Tensor)) {
	r := random()
	for _, s := range smallShapes() {
		for axis := range s {
			for range 3 {
				do(axis, anyParts(r, s, axis))
			}
		}
	}
}

func TestConcatOfAllSmallShapes(t *testing.T) {
	eachParts(func(axis int, xs []api.Tensor) {
		got, e := move.Concat(axis, xs...)
		checkCall(t, fmt.Sprint("Concat along ", axis, " of ", xs), got, e, joined(axis, xs))
	})
}

func TestConcatOfAllPairsOfShapes(t *testing.T) {
	list := smallShapes()
	for _, s := range list {
		for _, other := range list {
			for axis := -1; axis <= api.MaxRank; axis++ {
				xs := []api.Tensor{numbered(s...), numbered(other...)}
				got, e := move.Concat(axis, xs...)
				call := fmt.Sprint("Concat along ", axis, " of ", s, " and ", other)
				switch {
				case axis < 0 || axis >= len(s):
					checkNone(t, call, got, e, api.ErrAttr)
				case !areAlikeBut(axis, s, other):
					checkNone(t, call, got, e, api.ErrShape)
				default:
					checkCall(t, call, got, e, joined(axis, xs))
				}
			}
		}
	}
}

func areAlikeBut(axis int, a, b api.Shape) bool {
	if len(a) != len(b) {
		return false
	}
	for i, d := range a {
		if i != axis && d != b[i] {
			return false
		}
	}
	return true
}

// P9.3

// eachShape gives every small shape a few times.
func eachShape(do func(r *rand.Rand, s api.Shape)) {
	r := random()
	for _, s := range smallShapes() {
		for range 3 {
			do(r, s)
		}
	}
}

func TestTransposesAreTakenBack(t *testing.T) {
	must := good(t)
	eachShape(func(r *rand.Rand, s api.Shape) {
		p := r.Perm(len(s))
		back, e := shape.Inverse(p)
		checkError(t, "Inverse", e, api.OK)
		x := anyTensor(r, s)
		checkTensor(t, "Transpose and back", must(move.Transpose(must(move.Transpose(x, p)), back)), x)
		checkTensor(t, "back and Transpose", must(move.Transpose(must(move.Transpose(x, back)), p)), x)
	})
}

func TestReshapesAreTakenBack(t *testing.T) {
	must := good(t)
	eachShape(func(r *rand.Rand, s api.Shape) {
		x := anyTensor(r, s)
		for _, to := range []api.Shape{{count(s)}, {1, count(s)}, {count(s), 1, 1}, s} {
			checkTensor(t, "Reshape and back", must(move.Reshape(must(move.Reshape(x, to)), s)), x)
		}
	})
}

// position returns the cuts of where a tensor of a shape is in what Pad makes of it.
func position(s api.Shape, pads []int) []int {
	var cuts []int
	for i, d := range s {
		cuts = append(cuts, pads[2*i], pads[2*i]+d)
	}
	return cuts
}

func TestPadsAreTakenBack(t *testing.T) {
	must := good(t)
	eachShape(func(r *rand.Rand, s api.Shape) {
		x, pads := anyTensor(r, s), anyPads(r, s)
		checkTensor(t, "Pad and Slice", must(move.Slice(must(move.Pad(x, pads)), position(s, pads))), x)
	})
}

func TestSlicesOfConcatAreItsParts(t *testing.T) {
	must := good(t)
	eachParts(func(axis int, xs []api.Tensor) {
		all, ahead := must(move.Concat(axis, xs...)), 0
		for _, x := range xs {
			cuts := position(x.Shape, make([]int, 2*len(x.Shape)))
			cuts[2*axis], cuts[2*axis+1] = ahead, ahead+x.Shape[axis]
			checkTensor(t, "a part", must(move.Slice(all, cuts)), x)
			ahead += x.Shape[axis]
		}
	})
}

func checkProducts(t *testing.T, what string, a, b, c, d api.Tensor) {
	t.Helper()
	x, e := tensor.Dot(a, b)
	checkError(t, what, e, api.OK)
	y, e := tensor.Dot(c, d)
	checkError(t, what, e, api.OK)
	if !rat.Same(x, y) {
		t.Errorf("%s: the products %v and %v of %v, %v and %v, %v", what, x, y, a, b, c, d)
	}
}

func TestProducts(t *testing.T) {
	must := good(t)
	eachShape(func(r *rand.Rand, s api.Shape) {
		x := anyTensor(r, s)
		p := r.Perm(len(s))
		back, _ := shape.Inverse(p)
		left := must(move.Transpose(x, p))
		y := anyTensor(r, left.Shape)
		checkProducts(t, "Transpose", left, y, x, must(move.Transpose(y, back)))

		cuts := anyCuts(r, s)
		left = must(move.Slice(x, cuts))
		y = anyTensor(r, left.Shape)
		around := slices.Clone(cuts)
		for i, d := range s {
			around[2*i+1] = d - cuts[2*i+1]
		}
		checkProducts(t, "Slice", left, y, x, must(move.Pad(y, around)))

		pads := anyPads(r, s)
		left = must(move.Pad(x, pads))
		y = anyTensor(r, left.Shape)
		checkProducts(t, "Pad", left, y, x, must(move.Slice(y, position(s, pads))))
	})
}

// Elements of results may have any number of limbs, as those of arguments.
func TestLongNumbers(t *testing.T) {
	long := num("-7" + fmt.Sprintf("%0500d", 1) + "/3" + fmt.Sprintf("%0400d", 0))
	if len(long.Num) <= api.MaxLimbs || len(long.Den) <= api.MaxLimbs {
		t.Fatal("not long")
	}
	x := api.Tensor{Shape: api.Shape{2}, Elems: []api.Rat{long, counted(1)[0]}}
	zero := zeros(nil).Elems[0]
	checkMoved(t, []moved{
		{transpose(0), x, x},
		{reshape(2, 1), x, api.Tensor{Shape: api.Shape{2, 1}, Elems: x.Elems}},
		{broadcast(2, 2), x, api.Tensor{Shape: api.Shape{2, 2}, Elems: slices.Concat(x.Elems, x.Elems)}},
		{slice(0, 1), x, api.Tensor{Shape: api.Shape{1}, Elems: x.Elems[:1]}},
		{pad(1, 0), x, api.Tensor{Shape: api.Shape{3}, Elems: slices.Concat([]api.Rat{zero}, x.Elems)}},
		{concat(0, x), x, api.Tensor{Shape: api.Shape{4}, Elems: slices.Concat(x.Elems, x.Elems)}},
	})
}
