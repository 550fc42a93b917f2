package fold

import (
	"slices"

	"fluxion/api"
	"fluxion/rat"
	"fluxion/shape"
	"fluxion/tensor"
)

// mayAxes doesn't ask shape.Axes, which has one error for all that are no axes.
func mayAxes(axes []int, rank int) api.Errno {
	last := -1
	for _, n := range axes {
		if n <= last {
			return api.ErrAttr
		}
		last = n
	}
	// Only the last one is held against the rank: that is the greatest one.
	if last >= rank {
		return api.ErrShape
	}
	return api.OK
}

// summed adds up a copy, because the sum of a single element is that element itself.
func summed(x api.Tensor, axes ...int) api.Tensor {
	left := shape.Drop(x.Shape, axes...)
	parts := make([][]api.Rat, shape.Count(left))
	at := position(x.Shape, axes...)
	for place, a := range tensor.Copy(x).Elems {
		to := at(place)
		parts[to] = append(parts[to], a)
	}
	elems := make([]api.Rat, 0, len(parts))
	for _, l := range parts {
		elems = append(elems, total(l))
	}
	return api.Tensor{Shape: left, Elems: elems}
}

// position returns a closure that is given the offset of an element, and leads to that of the
// element of the sum to which it is added. Drop takes the numbers at the axes out of an index as
// it does with the dimensions of a shape.
func position(s api.Shape, axes ...int) func(place int) int {
	left := shape.Drop(s, axes...)
	return func(place int) int {
		index, _ := shape.Index(s, place)
		to, _ := shape.Offset(left, shape.Drop(index, axes...)...)
		return to
	}
}

// total is given at least one number. It adds halves, because a sum of fractions grows with every
// one of them: added one by one, nearly all of them would be added to a long number, but of
// halves only the last few are long.
func total(l []api.Rat) api.Rat {
	if len(l) == 1 {
		return l[0]
	}
	half := len(l) / 2
	return rat.Add(total(l[:half]), total(l[half:]))
}

// plus is given two tensors; the shape of the second one fits that of the first one. What is added
// is found as for a sum over the grown axes: the dimensions that Drop then leaves out are 1 in the
// second one, or it does not have them, so that without them its offsets are the same.
func plus(x, y api.Tensor) api.Tensor {
	at := position(x.Shape, shape.Grown(y.Shape, x.Shape)...)
	elems := make([]api.Rat, 0, len(x.Elems))
	for place, a := range x.Elems {
		elems = append(elems, rat.Add(a, y.Elems[at(place)]))
	}
	return api.Tensor{Shape: slices.Clone(x.Shape), Elems: elems}
}
