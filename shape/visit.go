package shape

import "fluxion/api"

// count goes on after the product is too great, because a dimension below 1 is the error that
// goes first. What is too great is not multiplied, so that every product is an int.
func count(s api.Shape) (int, api.Errno) {
	if len(s) > api.MaxRank {
		return 0, api.ErrLimit
	}
	n, e := 1, api.OK
visit:
	for _, d := range s {
		switch {
		case d < 1:
			e = api.ErrShape
			break visit
		case d > api.MaxElems/n:
			e = api.ErrLimit
			continue visit
		}
		n *= d
	}
	if e != api.OK {
		return 0, e
	}
	return n, api.OK
}

// grown answers for Fits too: that a shape doesn't fit is seen on the way to the grown axes.
func grown(from, to api.Shape) ([]int, api.Errno) {
	for _, s := range []api.Shape{from, to} {
		if e := May(s); e != api.OK {
			return nil, e
		}
	}
	ahead := len(to) - len(from)
	if ahead < 0 {
		return nil, api.ErrShape
	}
	var axes []int
visit:
	for i, d := range to {
		switch {
		case i < ahead:
			// The first shape does not have it.
		case from[i-ahead] == d:
			continue visit
		case from[i-ahead] != 1:
			return nil, api.ErrShape
		}
		axes = append(axes, i)
	}
	return axes, api.OK
}

// among marks the axes once, so that a long list of them isn't gone through for every dimension.
func among(axes []int, rank int) func(i int) bool {
	marked := make([]bool, rank)
	for _, n := range axes {
		if isBelow(n, rank) {
			marked[n] = true
		}
	}
	return func(i int) bool { return marked[i] }
}

func isBelow(n, end int) bool { return 0 <= n && n < end }
