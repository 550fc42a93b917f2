package fold

import (
	"iter"

	"fluxion/api"
	"fluxion/rat"
	"fluxion/shape"
)

func mayProduct(x, y api.Shape) api.Errno {
	if len(x) != 2 || len(y) != 2 || x[1] != y[0] {
		return api.ErrShape
	}
	return shape.May(productShape(x, y))
}

func productShape(x, y api.Shape) api.Shape { return api.Shape{x[0], y[1]} }

// product is given two matrices that go together. tensor.Dot would examine each row and each
// column again for every element.
func product(x, y api.Tensor) api.Tensor {
	var elems []api.Rat
	for row := range rows(x) {
		for column := range columns(y) {
			elems = append(elems, total(products(row, column)))
		}
	}
	return api.Tensor{Shape: productShape(x.Shape, y.Shape), Elems: elems}
}

func rows(x api.Tensor) iter.Seq[[]api.Rat] {
	width := x.Shape[1]
	return func(yield func([]api.Rat) bool) {
		for from := 0; from < len(x.Elems); from += width {
			if !yield(x.Elems[from : from+width]) {
				return
			}
		}
	}
}

func columns(x api.Tensor) iter.Seq[[]api.Rat] {
	return func(yield func([]api.Rat) bool) {
		for j := range x.Shape[1] {
			column := make([]api.Rat, 0, x.Shape[0])
			for row := range rows(x) {
				column = append(column, row[j])
			}
			if !yield(column) {
				return
			}
		}
	}
}

// products is given two lists of one length.
func products(x, y []api.Rat) []api.Rat {
	r := make([]api.Rat, 0, len(x))
	for i, a := range x {
		r = append(r, rat.Mul(a, y[i]))
	}
	return r
}
