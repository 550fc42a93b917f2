package move

import (
	"slices"

	"fluxion/api"
	"fluxion/shape"
	"fluxion/tensor"
)

func mayJoin(axis int, xs []api.Tensor) api.Errno {
	if len(xs) == 0 {
		return api.ErrArg
	}
	for _, x := range xs {
		if e := tensor.May(x); e != api.OK {
			return e
		}
	}
	first := xs[0].Shape
	if axis < 0 || axis >= len(first) {
		return api.ErrAttr
	}
	for _, x := range xs {
		// With 1 along the axis shapes of different ranks stay different; without the axis they
		// might be the same.
		if !shape.Same(shape.Ones(x.Shape, axis), shape.Ones(first, axis)) {
			return api.ErrShape
		}
	}
	return shape.May(joined(axis, xs))
}

func joined(axis int, xs []api.Tensor) api.Shape {
	s := slices.Clone(xs[0].Shape)
	for _, x := range xs[1:] {
		s[axis] += x.Shape[axis]
	}
	return s
}

// layer is what a tensor has at one number of the axis.
type layer struct {
	of     api.Tensor
	number int
}

// layers lists the layers of all tensors, one after the other, so that no tensor is searched for
// at each index.
func layers(axis int, xs []api.Tensor) []layer {
	var list []layer
	for _, x := range xs {
		for number := range x.Shape[axis] {
			list = append(list, layer{x, number})
		}
	}
	return list
}
