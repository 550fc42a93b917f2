package op_test

import (
	"math"
	"math/big"
	"math/rand/v2"
	"slices"
	"testing"

	"fluxion/api"
	"fluxion/op"
)

func random() *rand.Rand { return rand.New(rand.NewPCG(11, 11)) }

// lists returns all lists of up to a length with numbers from low to high.
func lists(length, low, high int) [][]int {
	all := [][]int{nil}
	longest := [][]int{nil}
	for range length {
		var next [][]int
		for _, l := range longest {
			for n := low; n <= high; n++ {
				next = append(next, append(slices.Clone(l), n))
			}
		}
		all = append(all, next...)
		longest = next
	}
	return all
}

// anyAttrs returns a list of up to ten numbers; pairs of them often rise.
func anyAttrs(r *rand.Rand) []int {
	odd := []int{api.MaxAttr, -api.MaxAttr, api.MaxAttr + 1, -api.MaxAttr - 1, api.MaxElems, api.MaxPow, api.MaxPow + 1, math.MaxInt, math.MinInt, -1}
	l := make([]int, r.IntN(11))
	for i := range l {
		l[i] = r.IntN(3) + i%2*r.IntN(4)
		if r.IntN(25) == 0 {
			l[i] = odd[r.IntN(len(odd))]
		}
	}
	return l
}

// attributes are lists for every operation: all short ones of small numbers, and longer ones.
func attributes() [][]int {
	all := slices.Concat(lists(3, -1, 4), lists(4, 0, 3), lists(5, 0, 1))
	for p := -10; p <= 10; p++ {
		for q := -1; q <= 12; q++ {
			all = append(all, []int{p, q})
		}
	}
	for n := -20; n <= 20; n++ {
		all = append(all, []int{n})
	}
	r := random()
	for range 800 {
		all = append(all, anyAttrs(r), []int{(r.IntN(3) - 1) * r.IntN(api.MaxAttr), r.IntN(api.MaxAttr)})
	}
	return all
}

func areAll(attrs []int, is func(n int) bool) bool {
	return !slices.ContainsFunc(attrs, func(n int) bool { return !is(n) })
}

func arePairs(attrs []int, is func(a, b int) bool) bool {
	for pair := range slices.Chunk(attrs, 2) {
		if len(pair) == 1 || !is(pair[0], pair[1]) {
			return false
		}
	}
	return len(attrs) <= 8
}

func greatestDivisor(p, q int) int64 {
	return new(big.Int).GCD(nil, nil, big.NewInt(int64(p)), big.NewInt(int64(q))).Int64()
}

// product is 0 for a list that is too long, or has a number that is none of a dimension.
func product(dims []int) int {
	n := 1
	for _, d := range dims {
		if d < 1 || d > api.MaxElems || len(dims) > 4 {
			return 0
		}
		n *= d
	}
	return n
}

// isAllowed is the last column of the chapter's table, word for word.
func isAllowed(o api.Op, version int, attrs []int) bool {
	if !areAll(attrs, func(n int) bool { return -api.MaxAttr <= n && n <= api.MaxAttr }) {
		return false
	}
	none := len(attrs) == 0
	switch o {
	case api.OpPow:
		return none && version == 1 || len(attrs) == 1 && 0 <= attrs[0] && attrs[0] <= 16
	case api.OpScale:
		return len(attrs) == 2 && attrs[1] >= 1 && greatestDivisor(attrs[0], attrs[1]) == 1
	case api.OpTranspose:
		for i := range attrs {
			if !slices.Contains(attrs, i) {
				return false
			}
		}
		return len(attrs) <= 4
	case api.OpReshape, api.OpBroadcast:
		n := product(attrs)
		return 1 <= n && n <= 1024
	case api.OpSum, api.OpMean:
		strictly := slices.Equal(slices.Compact(slices.Sorted(slices.Values(attrs))), attrs)
		return strictly && areAll(attrs, func(n int) bool { return 0 <= n && n < 4 })
	case api.OpSlice:
		return arePairs(attrs, func(a, b int) bool { return a >= 0 && b > a })
	case api.OpPad:
		return arePairs(attrs, func(a, b int) bool { return a >= 0 && b >= 0 })
	case api.OpConcat:
		return none && version == 1 || len(attrs) == 1 && 0 <= attrs[0] && attrs[0] < 4
	}
	return none
}

func errorOf(k known, version, args int, attrs []int) api.Errno {
	switch {
	case version < 1 || version > 3:
		return api.ErrVersion
	case !k.isIn(version):
		return api.ErrOp
	case args < k.least || args > k.most:
		return api.ErrArity
	case !isAllowed(k.op, version, attrs):
		return api.ErrAttr
	}
	return api.OK
}

func TestCheckOfAllSmallLists(t *testing.T) {
	for _, attrs := range attributes() {
		for _, k := range table() {
			for version := 0; version <= 4; version++ {
				for args := k.least - 1; args <= k.least+1; args++ {
					n := api.Node{Op: k.op, Args: make([]int, args), Attrs: attrs}
					checkNode(t, version, n, errorOf(k, version, args, attrs))
				}
			}
		}
	}
}

// What none means by the chapter's table, and otherwise the attributes.
func explicitOf(o api.Op, version, rank int, attrs []int) []int {
	all := []int{}
	for i := range counts(rank) {
		all = append(all, i)
	}
	if len(attrs) > 0 {
		return attrs
	}
	switch {
	case o == api.OpPow && version == 1:
		return []int{2}
	case o == api.OpConcat && version == 1:
		return []int{0}
	case o == api.OpTranspose && version == 1:
		slices.Reverse(all)
		return all
	case o == api.OpSum && (version == 1 || version == 2), o == api.OpMean && (version == 1 || version == 2):
		return all
	}
	return nil
}

func TestExplicitOfAllSmallLists(t *testing.T) {
	for _, attrs := range attributes() {
		for _, k := range table() {
			for version := 1; version <= 3; version++ {
				for _, rank := range []int{-1, 0, 3, api.MaxRank} {
					checkExplicit(t, version, k.node(attrs...), []int{rank}, explicitOf(k.op, version, rank, attrs))
				}
			}
		}
	}
}

// P11.1, both ways

func TestOfAndNameAreInverse(t *testing.T) {
	seen := map[string]bool{}
	for o := api.Op(-3); o <= 40; o++ {
		name := op.Name(o)
		if name == "" {
			continue
		}
		checkOf(t, name, o, api.OK)
		if seen[name] {
			t.Errorf("%s is the name of two operations", name)
		}
		seen[name] = true
	}
	if len(seen) != len(table()) {
		t.Errorf("%d names, want %d", len(seen), len(table()))
	}
}

// An operation is in a version, and takes a number of arguments, exactly if Check says so.
func TestInAndArityAreThoseOfCheck(t *testing.T) {
	for o := api.Op(-3); o <= 40; o++ {
		least, most := op.Arity(o)
		for version := -1; version <= 5; version++ {
			for args := range api.MaxArgs + 3 {
				e := op.Check(version, api.Node{Op: o, Args: make([]int, args), Attrs: []int{math.MaxInt}})
				in := version >= 1 && version <= 3 && e != api.ErrOp
				if op.In(o, version) != in {
					t.Errorf("In of %d and version %d: %t, but Check: error %d", o, version, !in, e)
				}
				if in && (least <= args && args <= most) != (e == api.ErrAttr) {
					t.Errorf("Arity of %d: %d, %d, but Check of %d arguments: error %d", o, least, most, args, e)
				}
			}
		}
	}
}

// P11.4

// checkLater asks whether a node that is valid in a version stays so, with its explicit attributes.
func checkLater(t *testing.T, version int, n api.Node, ranks ...int) {
	t.Helper()
	m := api.Node{Op: n.Op, Args: n.Args, Attrs: op.Explicit(version, n, ranks...)}
	for later := version; later <= 3; later++ {
		if op.In(n.Op, later) {
			checkNode(t, later, m, api.OK)
			checkExplicit(t, later, m, ranks, m.Attrs)
		}
	}
}

func TestExplicitNodesStayValid(t *testing.T) {
	for _, attrs := range attributes() {
		for _, k := range table() {
			for version := 1; version <= 3; version++ {
				n := k.node(attrs...)
				if op.Check(version, n) != api.OK {
					continue
				}
				checkLater(t, version, n)
				checkLater(t, version, n, 2, 4)
			}
		}
	}
}

// Every operation takes part, in every pair of versions in which it exists.
func TestExplicitNodesOfEveryRow(t *testing.T) {
	for _, k := range table() {
		for version := k.since; version <= k.until; version++ {
			for rank := -1; rank <= api.MaxRank+1; rank++ {
				checkNode(t, version, k.node(k.good...), api.OK)
				checkLater(t, version, k.node(k.good...), rank)
				if n := k.node(); op.Check(version, n) == api.OK {
					checkLater(t, version, n, rank)
				}
			}
		}
	}
}

// Attributes that are explicit mean the same in all versions: what is valid in a later version is
// so in an earlier one, too.
func TestExplicitAttributesAreValidInAllVersions(t *testing.T) {
	for _, attrs := range attributes() {
		for _, k := range table() {
			for version := k.since; version < k.until; version++ {
				if n := k.node(attrs...); op.Check(version+1, n) == api.OK {
					checkNode(t, version, n, api.OK)
				}
			}
		}
	}
}
