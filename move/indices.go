package move

import (
	"slices"

	"fluxion/api"
	"fluxion/rat"
	"fluxion/shape"
)

// built is given a valid shape, and a closure that returns elements in new memory.
func built(s api.Shape, take func(index []int) api.Rat) api.Tensor {
	return api.Tensor{Shape: slices.Clone(s), Elems: filled(s, take)}
}

// filled gives the closure every index in new memory, so that it may change the numbers to those
// of the place from which it takes.
func filled[T any](s api.Shape, take func(index []int) T) []T {
	count := shape.Count(s)
	list := make([]T, 0, count)
	for place := range count {
		index, _ := shape.Index(s, place)
		list = append(list, take(index))
	}
	return list
}

// element is given a valid tensor; tensor.At would examine all of it for every element. Outside
// of the tensor are the zeros of a padding. The limbs are copied instead of taking the norm,
// which the element has already.
func element(x api.Tensor, index []int) api.Rat {
	place, e := shape.Offset(x.Shape, index...)
	if e != api.OK {
		return rat.Int(0)
	}
	a := x.Elems[place]
	return api.Rat{Neg: a.Neg, Num: slices.Clone(a.Num), Den: slices.Clone(a.Den)}
}

func mayCount(x api.Tensor, s api.Shape) api.Errno {
	if shape.Count(s) != len(x.Elems) {
		return api.ErrShape
	}
	return api.OK
}
