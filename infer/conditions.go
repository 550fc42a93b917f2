package infer

import (
	"fluxion/api"
	"fluxion/shape"
)

// call is a valid node with its explicit attributes, and the valid shapes of its arguments.
type call struct {
	op     api.Op
	attrs  []int
	shapes []api.Shape
}

// holds leaves out the third shape of OpGemm: a result with too many elements is an error that
// goes before it.
func (c call) holds() bool {
	x := c.shapes[0]
	switch c.op {
	case api.OpAdd, api.OpSub, api.OpMul, api.OpDiv:
		return shape.Same(c.shapes[1], x)
	case api.OpMatMul, api.OpGemm:
		y := c.shapes[1]
		return len(x) == 2 && len(y) == 2 && x[1] == y[0]
	case api.OpTranspose:
		return len(c.attrs) == len(x)
	case api.OpReshape:
		return shape.Count(c.attrs) == shape.Count(x)
	case api.OpBroadcast:
		return shape.Fits(x, c.attrs) == api.OK
	case api.OpConcat:
		if !c.areAlike() {
			return false
		}
		fallthrough
	case api.OpSum, api.OpMean:
		return shape.Axes(c.attrs, len(x)) == api.OK
	case api.OpSlice:
		if !c.endsWithin() {
			return false
		}
		fallthrough
	case api.OpPad:
		return len(c.attrs) == 2*len(x)
	}
	return true
}

// areAlike holds 1 against 1 in the dimension in which the shapes may differ.
func (c call) areAlike() bool {
	x := shape.Ones(c.shapes[0], c.attrs...)
	for _, s := range c.shapes {
		if !shape.Same(shape.Ones(s, c.attrs...), x) {
			return false
		}
	}
	return true
}

func (c call) endsWithin() bool {
	for d, p := range c.pairs() {
		if p.second > d {
			return false
		}
	}
	return true
}

func (c call) mayAdd(product api.Shape) api.Errno {
	if c.op != api.OpGemm {
		return api.OK
	}
	return shape.Fits(c.shapes[2], product)
}
