package op

import (
	"slices"

	"fluxion/api"
)

// span is all numbers from low to high.
type span struct{ low, high int }

func (s span) has(n int) bool { return s.low <= n && n <= s.high }

// row is an operation. Up to the version loose its attributes may be left out; meant tells what
// that means for a rank. An operation whose loose is 0 has no meaning for it.
type row struct {
	op       api.Op
	name     string
	versions span
	args     span
	fits     func(attrs []int) bool
	loose    int
	meant    func(rank int) []int
}

func allVersions() span { return span{1, 3} }

func rows() []row {
	all, early, one, two := allVersions(), span{1, 2}, span{1, 1}, span{2, 2}
	return []row{
		{op: api.OpAdd, name: "add", versions: all, args: two, fits: isNone},
		{op: api.OpSub, name: "sub", versions: all, args: two, fits: isNone},
		{op: api.OpMul, name: "mul", versions: all, args: two, fits: isNone},
		{op: api.OpDiv, name: "div", versions: all, args: two, fits: isNone},
		{op: api.OpNeg, name: "neg", versions: all, args: one, fits: isNone},
		{op: api.OpPow, name: "pow", versions: all, args: one, fits: oneUpTo(api.MaxPow), loose: 1, meant: always(2)},
		{op: api.OpRelu, name: "relu", versions: all, args: one, fits: isNone},
		{op: api.OpStep, name: "step", versions: span{3, 3}, args: one, fits: isNone},
		{op: api.OpScale, name: "scale", versions: span{3, 3}, args: one, fits: isFraction},
		{op: api.OpMatMul, name: "matmul", versions: all, args: two, fits: isNone},
		{op: api.OpTranspose, name: "transpose", versions: all, args: one, fits: isPerm, loose: 1, meant: backward},
		{op: api.OpReshape, name: "reshape", versions: all, args: one, fits: isShape},
		{op: api.OpBroadcast, name: "broadcast", versions: all, args: one, fits: isShape},
		{op: api.OpSum, name: "sum", versions: all, args: one, fits: areAxes, loose: 2, meant: forward},
		{op: api.OpSlice, name: "slice", versions: all, args: one, fits: pairs(func(from, to int) bool { return 0 <= from && from < to })},
		{op: api.OpPad, name: "pad", versions: all, args: one, fits: pairs(func(before, after int) bool { return 0 <= before && 0 <= after })},
		{op: api.OpConcat, name: "concat", versions: all, args: span{1, api.MaxArgs}, fits: oneUpTo(api.MaxRank - 1), loose: 1, meant: always(0)},
		{op: api.OpSquare, name: "square", versions: span{1, 1}, args: one, fits: isNone},
		{op: api.OpGemm, name: "gemm", versions: early, args: span{3, 3}, fits: isNone},
		{op: api.OpMean, name: "mean", versions: early, args: one, fits: areAxes, loose: 2, meant: forward},
	}
}

func find(isIt func(r row) bool) (row, bool) {
	table := rows()
	i := slices.IndexFunc(table, isIt)
	if i < 0 {
		return row{}, false
	}
	return table[i], true
}

func rowOf(o api.Op) (row, bool) {
	return find(func(r row) bool { return r.op == o })
}

func (r row) leavesOut(version int, attrs []int) bool {
	return len(attrs) == 0 && version <= r.loose
}

// takes asks for the bounds first: what fits may reckon with the numbers.
func (r row) takes(attrs []int) bool {
	bounds := span{-api.MaxAttr, api.MaxAttr}
	isBeyond := func(n int) bool { return !bounds.has(n) }
	return !slices.ContainsFunc(attrs, isBeyond) && r.fits(attrs)
}
