package op

import (
	"fluxion/api"
	"fluxion/shape"
)

func isNone(attrs []int) bool { return len(attrs) == 0 }

func oneUpTo(most int) func(attrs []int) bool {
	numbers := span{0, most}
	return func(attrs []int) bool { return len(attrs) == 1 && numbers.has(attrs[0]) }
}

func isFraction(attrs []int) bool {
	return len(attrs) == 2 && attrs[1] >= 1 && isCoprime(attrs[0], attrs[1])
}

// isCoprime keeps the sign that a remainder has: the last divisor may be -1.
func isCoprime(p, q int) bool {
	for q != 0 {
		p, q = q, p%q
	}
	return p == 1 || p == -1
}

func isPerm(attrs []int) bool {
	return len(attrs) <= api.MaxRank && shape.Perm(attrs, len(attrs)) == api.OK
}

func isShape(attrs []int) bool { return shape.May(attrs) == api.OK }

func areAxes(attrs []int) bool { return shape.Axes(attrs, api.MaxRank) == api.OK }

func pairs(fit func(a, b int) bool) func(attrs []int) bool {
	return func(attrs []int) bool {
		if len(attrs)%2 != 0 || len(attrs) > 2*api.MaxRank {
			return false
		}
		for i := 0; i < len(attrs); i += 2 {
			if !fit(attrs[i], attrs[i+1]) {
				return false
			}
		}
		return true
	}
}

func always(n int) func(rank int) []int {
	return func(int) []int { return []int{n} }
}

func forward(rank int) []int {
	r := make([]int, rank)
	for i := range r {
		r[i] = i
	}
	return r
}

func backward(rank int) []int {
	r := make([]int, rank)
	for i := range r {
		r[i] = rank - 1 - i
	}
	return r
}
