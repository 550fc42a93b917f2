package move

import (
	"iter"
	"slices"

	"fluxion/api"
	"fluxion/shape"
)

type pair struct{ first, second int }

// pairs yields each pair with the number of its dimension.
func pairs(l []int) iter.Seq2[int, pair] {
	return func(yield func(dimension int, p pair) bool) {
		for i := range len(l) / 2 {
			if !yield(i, pair{l[2*i], l[2*i+1]}) {
				return
			}
		}
	}
}

// mayCuts goes on after a pair that leads beyond its dimension, because a later pair that is none
// is the error that goes first.
func mayCuts(s api.Shape, cuts []int) api.Errno {
	if len(cuts) != 2*len(s) {
		return api.ErrAttr
	}
	e := api.OK
	for i, c := range pairs(cuts) {
		if c.first < 0 || c.second <= c.first {
			return api.ErrAttr
		}
		if c.second > s[i] {
			e = api.ErrShape
		}
	}
	return e
}

func mayPads(s api.Shape, pads []int) api.Errno {
	if len(pads) != 2*len(s) {
		return api.ErrAttr
	}
	for _, p := range pairs(pads) {
		if p.first < 0 || p.second < 0 {
			return api.ErrAttr
		}
	}
	return shape.May(padded(s, pads))
}

// padded takes MaxElems for each greater number, so that no sum overflows: the shape has too many
// elements either way.
func padded(s api.Shape, pads []int) api.Shape {
	r := slices.Clone(s)
	for i, p := range pairs(pads) {
		r[i] += min(p.first, api.MaxElems) + min(p.second, api.MaxElems)
	}
	return r
}
