package tensor

import (
	"iter"

	"fluxion/api"
	"fluxion/shape"
)

// cells is generic because a tensor consists of lists of three kinds (dimensions, elements, and
// the limbs of each element), and no result may share memory with any of them.
type cells[T any] []T

func elements(t api.Tensor) cells[api.Rat] { return t.Elems }

func (c cells[T]) all() iter.Seq[T] {
	return func(yield func(T) bool) {
		for _, x := range c {
			if !yield(x) {
				return
			}
		}
	}
}

// beside yields what two lists of one length have at equal offsets.
func (c cells[T]) beside(d cells[T]) iter.Seq2[T, T] {
	return func(yield func(T, T) bool) {
		for i, x := range c {
			if !yield(x, d[i]) {
				return
			}
		}
	}
}

func (c cells[T]) made(do func(T) T) cells[T] {
	r := make(cells[T], 0, len(c))
	for x := range c.all() {
		r = append(r, do(x))
	}
	return r
}

func (c cells[T]) copied() cells[T] {
	return c.made(func(x T) T { return x })
}

// joined is given at least one cell. It joins halves, because a sum of fractions grows with every
// one of them: added one by one, nearly all of them would be added to a long number, but of
// halves only the last few are long.
func (c cells[T]) joined(with func(T, T) T) T {
	if len(c) == 1 {
		return c[0]
	}
	half := len(c) / 2
	return with(c[:half].joined(with), c[half:].joined(with))
}

// room goes before the elements: where there may be no tensor, none of them is looked at.
func room(s api.Shape, n int) api.Errno {
	if e := shape.May(s); e != api.OK {
		return e
	}
	if n != shape.Count(s) {
		return api.ErrShape
	}
	return api.OK
}

func copyShape(s api.Shape) api.Shape {
	return api.Shape(cells[int](s).copied())
}

// copyRat keeps a number that is not valid as it is.
func copyRat(x api.Rat) api.Rat {
	return api.Rat{
		Neg: x.Neg,
		Num: api.Nat(cells[uint32](x.Num).copied()),
		Den: api.Nat(cells[uint32](x.Den).copied()),
	}
}
