package point

import (
	"cmp"
	"iter"
	"slices"

	"fluxion/api"
	"fluxion/rat"
	"fluxion/shape"
	"fluxion/tensor"
)

type operation func(a, b api.Rat) (api.Rat, api.Errno)

// total makes an operation of one that exists for all numbers.
func total(do func(a, b api.Rat) api.Rat) operation {
	return func(a, b api.Rat) (api.Rat, api.Errno) { return do(a, b), api.OK }
}

func ofTwo(x, y api.Tensor, do operation) (api.Tensor, api.Errno) {
	if e := cmp.Or(tensor.May(x), tensor.May(y), mayPair(x, y)); e != api.OK {
		return api.Tensor{}, e
	}
	elems, e := joined(x.Elems, y.Elems, do)
	if e != api.OK {
		return api.Tensor{}, e
	}
	return shaped(x.Shape, elems), api.OK
}

func ofOne(x api.Tensor, do func(api.Rat) api.Rat) (api.Tensor, api.Errno) {
	if e := tensor.May(x); e != api.OK {
		return api.Tensor{}, e
	}
	return each(x, do), api.OK
}

// each is given a valid tensor.
func each(x api.Tensor, do func(api.Rat) api.Rat) api.Tensor {
	elems := make([]api.Rat, 0, len(x.Elems))
	for _, a := range x.Elems {
		elems = append(elems, do(a))
	}
	return shaped(x.Shape, elems)
}

// shaped leaves the elements as they are: the operations of rat return norms in new memory, and
// to take the norms again, as tensor.Make does, would double the time.
func shaped(s api.Shape, elems []api.Rat) api.Tensor {
	return api.Tensor{Shape: slices.Clone(s), Elems: elems}
}

// joined is given two lists of one length. The first pair that fails ends it.
func joined[T any](x, y []T, do func(a, b T) (T, api.Errno)) ([]T, api.Errno) {
	r := make([]T, 0, len(x))
	for a, b := range pairs(x, y) {
		c, e := do(a, b)
		if e != api.OK {
			return nil, e
		}
		r = append(r, c)
	}
	return r, api.OK
}

func pairs[T any](x, y []T) iter.Seq2[T, T] {
	return func(yield func(a, b T) bool) {
		for i, a := range x {
			if !yield(a, y[i]) {
				return
			}
		}
	}
}

func mayPair(x, y api.Tensor) api.Errno {
	if !shape.Same(x.Shape, y.Shape) {
		return api.ErrShape
	}
	return api.OK
}

func mayPower(n int) api.Errno {
	if n < 0 || n > api.MaxPow {
		return api.ErrAttr
	}
	return api.OK
}

// relu copies the limbs instead of taking the norm, which an element has already.
func relu(a api.Rat) api.Rat {
	if rat.Sign(a) < 0 {
		return rat.Int(0)
	}
	return api.Rat{Neg: a.Neg, Num: slices.Clone(a.Num), Den: slices.Clone(a.Den)}
}

func step(a api.Rat) api.Rat {
	if rat.Sign(a) > 0 {
		return rat.Int(1)
	}
	return rat.Int(0)
}
