package infer

import (
	"iter"
	"slices"

	"fluxion/api"
	"fluxion/shape"
)

// result is asked only where the condition holds.
func (c call) result() api.Shape {
	x := c.shapes[0]
	switch c.op {
	case api.OpMatMul, api.OpGemm:
		return api.Shape{x[0], c.shapes[1][1]}
	case api.OpTranspose:
		return c.permuted()
	case api.OpReshape, api.OpBroadcast:
		return slices.Clone(c.attrs)
	case api.OpSum, api.OpMean:
		return shape.Drop(x, c.attrs...)
	case api.OpSlice:
		return c.sized(func(_ int, p pair) int { return p.second - p.first })
	case api.OpPad:
		return c.sized(func(d int, p pair) int { return d + p.first + p.second })
	case api.OpConcat:
		return c.joined()
	}
	return slices.Clone(x)
}

func (c call) permuted() api.Shape {
	s := make(api.Shape, len(c.attrs))
	for i, n := range c.attrs {
		s[i] = c.shapes[0][n]
	}
	return s
}

func (c call) joined() api.Shape {
	axis := c.attrs[0]
	s := slices.Clone(c.shapes[0])
	for _, y := range c.shapes[1:] {
		s[axis] += y[axis]
	}
	return s
}

func (c call) sized(size func(d int, p pair) int) api.Shape {
	var s api.Shape
	for d, p := range c.pairs() {
		s = append(s, size(d, p))
	}
	return s
}

type pair struct{ first, second int }

// pairs yields each dimension of the first shape with its pair, as far as there are both: it serves
// the condition too, where their numbers may differ.
func (c call) pairs() iter.Seq2[int, pair] {
	return func(yield func(d int, p pair) bool) {
		for i, d := range c.shapes[0] {
			if 2*i+1 >= len(c.attrs) || !yield(d, pair{c.attrs[2*i], c.attrs[2*i+1]}) {
				return
			}
		}
	}
}
