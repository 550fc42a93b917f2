package op_test

import (
	"math"
	"slices"
	"strings"
	"testing"

	"fluxion/api"
	"fluxion/op"
)

// known is a row of the chapter's table; good are attributes that are valid in all its versions.
type known struct {
	op           api.Op
	name         string
	since, until int
	least, most  int
	good         []int
}

func table() []known {
	return []known{
		{api.OpAdd, "add", 1, 3, 2, 2, nil},
		{api.OpSub, "sub", 1, 3, 2, 2, nil},
		{api.OpMul, "mul", 1, 3, 2, 2, nil},
		{api.OpDiv, "div", 1, 3, 2, 2, nil},
		{api.OpMatMul, "matmul", 1, 3, 2, 2, nil},
		{api.OpNeg, "neg", 1, 3, 1, 1, nil},
		{api.OpRelu, "relu", 1, 3, 1, 1, nil},
		{api.OpStep, "step", 3, 3, 1, 1, nil},
		{api.OpSquare, "square", 1, 1, 1, 1, nil},
		{api.OpGemm, "gemm", 1, 2, 3, 3, nil},
		{api.OpPow, "pow", 1, 3, 1, 1, []int{3}},
		{api.OpScale, "scale", 3, 3, 1, 1, []int{-2, 3}},
		{api.OpTranspose, "transpose", 1, 3, 1, 1, []int{1, 0}},
		{api.OpReshape, "reshape", 1, 3, 1, 1, []int{2, 3}},
		{api.OpBroadcast, "broadcast", 1, 3, 1, 1, []int{2, 3}},
		{api.OpSum, "sum", 1, 3, 1, 1, []int{0, 2}},
		{api.OpMean, "mean", 1, 2, 1, 1, []int{0, 2}},
		{api.OpSlice, "slice", 1, 3, 1, 1, []int{0, 2, 1, 2}},
		{api.OpPad, "pad", 1, 3, 1, 1, []int{0, 1, 2, 0}},
		{api.OpConcat, "concat", 1, 3, 1, 8, []int{1}},
	}
}

func (k known) isIn(version int) bool { return k.since <= version && version <= k.until }

// node is one with as many arguments as it needs.
func (k known) node(attrs ...int) api.Node {
	return api.Node{Op: k.op, Args: make([]int, k.least), Attrs: attrs}
}

func knownOf(t *testing.T, name string) known {
	t.Helper()
	i := slices.IndexFunc(table(), func(k known) bool { return k.name == name })
	if i < 0 {
		t.Fatal("no row ", name)
	}
	return table()[i]
}

// strangers are the numbers of no operation, the nearest ones among them.
func strangers() []api.Op {
	return []api.Op{api.OpAdd - 1, api.OpMean + 1, -1, -2, 100, math.MaxInt, math.MinInt}
}

func checkOf(t *testing.T, name string, want api.Op, wantE api.Errno) {
	t.Helper()
	if o, e := op.Of(name); o != want || e != wantE {
		t.Errorf("Of %q: %d, error %d, want %d, %d", name, o, e, want, wantE)
	}
}

func checkNode(t *testing.T, version int, n api.Node, want api.Errno) {
	t.Helper()
	if e := op.Check(version, n); e != want {
		t.Errorf("version %d: Check of %s with %d arguments and the attributes %v: error %d, want %d", version, op.Name(n.Op), len(n.Args), n.Attrs, e, want)
	}
}

// checkAttrs asks in each version in which the operation exists.
func checkAttrs(t *testing.T, name string, want api.Errno, lists ...[]int) {
	t.Helper()
	k := knownOf(t, name)
	for _, attrs := range lists {
		for version := k.since; version <= k.until; version++ {
			checkNode(t, version, k.node(attrs...), want)
		}
	}
}

func checkExplicit(t *testing.T, version int, n api.Node, ranks, want []int) {
	t.Helper()
	if got := op.Explicit(version, n, ranks...); !slices.Equal(got, want) {
		t.Errorf("version %d: Explicit of %s with %d arguments, the attributes %v and the ranks %v: %v, want %v", version, op.Name(n.Op), len(n.Args), n.Attrs, ranks, got, want)
	}
}

// P11.1

func TestNamesAndNumbers(t *testing.T) {
	for _, k := range table() {
		if s := op.Name(k.op); s != k.name {
			t.Errorf("Name of %d: %q, want %q", k.op, s, k.name)
		}
		checkOf(t, k.name, k.op, api.OK)
		if a, b := op.Arity(k.op); a != k.least || b != k.most {
			t.Errorf("Arity of %s: %d, %d, want %d, %d", k.name, a, b, k.least, k.most)
		}
		for version := -1; version <= 5; version++ {
			if in := op.In(k.op, version); in != k.isIn(version) {
				t.Errorf("In of %s and version %d: %t", k.name, version, in)
			}
		}
	}
	if len(table()) != int(api.OpMean) {
		t.Errorf("%d operations are tested", len(table()))
	}
}

func TestNoSuchOperation(t *testing.T) {
	for _, o := range strangers() {
		if s := op.Name(o); s != "" {
			t.Errorf("Name of %d: %q", o, s)
		}
		if a, b := op.Arity(o); a != 0 || b != 0 {
			t.Errorf("Arity of %d: %d, %d", o, a, b)
		}
		for _, version := range []int{math.MinInt, -1, 0, 1, 2, 3, 4, math.MaxInt} {
			if op.In(o, version) {
				t.Errorf("%d is in version %d", o, version)
			}
		}
	}
}

func TestNoSuchVersion(t *testing.T) {
	for _, k := range table() {
		for _, version := range []int{math.MinInt, -1, 0, 4, 5, math.MaxInt} {
			if op.In(k.op, version) {
				t.Errorf("%s is in version %d", k.name, version)
			}
		}
	}
}

func TestNoSuchName(t *testing.T) {
	names := []string{"", " ", "\x00", "0", "1", "op", "OpAdd", "abs", "root", "matmull", "matMul", "mat mul", "max", "ad", "addd", "\xffadd", "äddition", strings.Repeat("add", 1000)}
	for _, k := range table() {
		names = append(names, strings.ToUpper(k.name), strings.ToUpper(k.name[:1])+k.name[1:], k.name+" ", " "+k.name, k.name+"\n", k.name+"\x00", k.name+"x", "x"+k.name, "z"+k.name[1:], k.name[:len(k.name)-1], k.name+k.name)
	}
	for _, name := range names {
		checkOf(t, name, 0, api.ErrNone)
	}
}

// P11.2

func TestEveryOperationInEveryVersion(t *testing.T) {
	for _, k := range table() {
		for version := 1; version <= 3; version++ {
			want := api.OK
			if !k.isIn(version) {
				want = api.ErrOp
			}
			checkNode(t, version, k.node(k.good...), want)
		}
	}
}

func TestNumbersOfArguments(t *testing.T) {
	for _, k := range table() {
		for version := k.since; version <= k.until; version++ {
			for count := range api.MaxArgs + 3 {
				want := api.OK
				if count < k.least || count > k.most {
					want = api.ErrArity
				}
				checkNode(t, version, api.Node{Op: k.op, Args: make([]int, count), Attrs: k.good}, want)
			}
			checkNode(t, version, api.Node{Op: k.op, Args: make([]int, 100000), Attrs: k.good}, api.ErrArity)
		}
	}
}

func TestArgumentsOfConcat(t *testing.T) {
	for version := 1; version <= 3; version++ {
		for count, want := range map[int]api.Errno{0: api.ErrArity, 1: api.OK, api.MaxArgs: api.OK, api.MaxArgs + 1: api.ErrArity} {
			checkNode(t, version, api.Node{Op: api.OpConcat, Args: make([]int, count), Attrs: []int{0}}, want)
		}
	}
}

// Which references the arguments are is not looked at.
func TestArgumentsAreNotExamined(t *testing.T) {
	for _, k := range table() {
		n := k.node(k.good...)
		for i := range n.Args {
			n.Args[i] = []int{math.MinInt, math.MaxInt, -1}[i%3]
		}
		checkNode(t, k.since, n, api.OK)
	}
}

func TestOperationsWithoutAttributes(t *testing.T) {
	for _, name := range []string{"add", "sub", "mul", "div", "matmul", "neg", "relu", "step", "square", "gemm"} {
		checkAttrs(t, name, api.OK, nil, []int{})
		checkAttrs(t, name, api.ErrAttr, []int{0}, []int{1}, []int{-1}, []int{0, 1}, []int{0, 0, 0}, make([]int, 9), []int{api.MaxAttr}, []int{math.MinInt})
	}
}

// Which versions let attributes be left out; where none is a valid list by itself it is always OK.
func TestAttributesLeftOut(t *testing.T) {
	for name, want := range map[string][3]api.Errno{
		"pow":       {api.OK, api.ErrAttr, api.ErrAttr},
		"concat":    {api.OK, api.ErrAttr, api.ErrAttr},
		"transpose": {api.OK, api.OK, api.OK},
		"reshape":   {api.OK, api.OK, api.OK},
		"broadcast": {api.OK, api.OK, api.OK},
		"sum":       {api.OK, api.OK, api.OK},
		"slice":     {api.OK, api.OK, api.OK},
		"pad":       {api.OK, api.OK, api.OK},
		"mean":      {api.OK, api.OK, api.ErrOp},
		"scale":     {api.ErrOp, api.ErrOp, api.ErrAttr},
	} {
		for i, e := range want {
			checkNode(t, i+1, knownOf(t, name).node(), e)
			checkNode(t, i+1, knownOf(t, name).node([]int{}...), e)
		}
	}
}

func TestExponents(t *testing.T) {
	checkAttrs(t, "pow", api.OK, []int{0}, []int{1}, []int{2}, []int{api.MaxPow - 1}, []int{api.MaxPow})
	checkAttrs(t, "pow", api.ErrAttr, []int{-1}, []int{api.MaxPow + 1}, []int{2, 2}, []int{0, 0}, []int{-api.MaxPow}, []int{math.MaxInt}, []int{math.MinInt})
}

func TestFractions(t *testing.T) {
	checkAttrs(t, "scale", api.OK,
		[]int{0, 1}, []int{1, 1}, []int{-1, 1}, []int{1, 2}, []int{-1, 2}, []int{2, 1}, []int{-4, 9}, []int{9, 4}, []int{6, 35}, []int{-6, 35},
		[]int{api.MaxAttr, 1}, []int{-api.MaxAttr, 1}, []int{1, api.MaxAttr}, []int{-1, api.MaxAttr}, []int{api.MaxAttr, api.MaxAttr - 1}, []int{-api.MaxAttr, api.MaxAttr - 1}, []int{api.MaxAttr - 1, api.MaxAttr})
	checkAttrs(t, "scale", api.ErrAttr,
		[]int{0, 2}, []int{0, api.MaxAttr}, []int{1, 0}, []int{-1, 0}, []int{0, 0}, []int{1, -1}, []int{-1, -1}, []int{0, -1}, []int{3, -2},
		[]int{2, 4}, []int{-2, 4}, []int{4, 2}, []int{-4, 6}, []int{6, 9}, []int{-9, 6}, []int{7, 7}, []int{-7, 7}, []int{35, 21}, []int{api.MaxAttr, api.MaxAttr}, []int{-api.MaxAttr, api.MaxAttr}, []int{1 << 30, 1 << 20},
		[]int{1}, []int{0}, []int{1, 2, 3}, []int{1, 2, 1, 2})
}

func TestPermutations(t *testing.T) {
	checkAttrs(t, "transpose", api.OK, nil, []int{0}, []int{0, 1}, []int{1, 0}, []int{2, 0, 1}, []int{0, 1, 2, 3}, []int{3, 2, 1, 0}, []int{1, 3, 0, 2})
	checkAttrs(t, "transpose", api.ErrAttr,
		[]int{0, 1, 2, 3, 4}, []int{4, 3, 2, 1, 0}, []int{0, 0}, []int{1, 1}, []int{0, 1, 1}, []int{2, 0, 2, 1}, []int{1}, []int{4}, []int{-1}, []int{0, 2}, []int{0, -1}, []int{1, 2}, []int{1, 2, 3, 4}, []int{-1, 0, 1, 2}, []int{0, 1, 2, math.MaxInt}, []int{math.MinInt, 0})
}

func TestShapes(t *testing.T) {
	for _, name := range []string{"reshape", "broadcast"} {
		checkAttrs(t, name, api.OK, nil, []int{}, []int{1}, []int{api.MaxElems}, []int{2, 3}, []int{1, 1, 1, 1}, []int{4, 4, 8, 8}, []int{32, 32}, []int{1, api.MaxElems})
		checkAttrs(t, name, api.ErrAttr, []int{0}, []int{-1}, []int{2, 0}, []int{-2, -3}, []int{api.MaxElems + 1}, []int{2000}, []int{32, 33}, []int{1, 1, 1, 1, 1}, []int{4, 4, 8, 9}, []int{api.MaxAttr}, []int{1 << 31, 1 << 31, 1 << 31}, []int{math.MaxInt, math.MaxInt}, []int{math.MinInt}, []int{api.MaxElems, 0})
	}
}

func TestAxes(t *testing.T) {
	for _, name := range []string{"sum", "mean"} {
		checkAttrs(t, name, api.OK, nil, []int{0}, []int{1}, []int{api.MaxRank - 1}, []int{0, 1}, []int{0, 3}, []int{1, 2, 3}, []int{0, 1, 2, 3})
		checkAttrs(t, name, api.ErrAttr, []int{api.MaxRank}, []int{-1}, []int{1, 0}, []int{0, 0}, []int{0, 1, 1}, []int{3, 3}, []int{0, 2, 1}, []int{3, 2, 1, 0}, []int{-1, 0}, []int{0, 4}, []int{0, 1, 2, 3, 4}, []int{0, 1, 2, 3, 3}, []int{math.MaxInt}, []int{math.MinInt, 0})
	}
}

func TestSlices(t *testing.T) {
	checkAttrs(t, "slice", api.OK, nil, []int{0, 1}, []int{0, 9}, []int{7, 8}, []int{0, 1, 0, 1, 0, 1}, []int{0, 1, 2, 3, 4, 5, 6, 7}, []int{0, api.MaxAttr}, []int{api.MaxAttr - 1, api.MaxAttr})
	checkAttrs(t, "slice", api.ErrAttr,
		[]int{0}, []int{0, 1, 2}, []int{0, 1, 0, 1, 0}, []int{0, 1, 0, 1, 0, 1, 0, 1, 0}, []int{0, 1, 0, 1, 0, 1, 0, 1, 0, 1},
		[]int{-1, 1}, []int{-2, -1}, []int{-1, 0}, []int{2, 2}, []int{0, 0}, []int{2, 1}, []int{1, 0}, []int{0, -1}, []int{0, 1, -1, 1}, []int{0, 1, 2, 2}, []int{2, 2, 0, 1}, []int{0, 1, 0, 1, 0, 1, 1, 1}, []int{math.MinInt, math.MaxInt}, []int{0, math.MaxInt})
}

func TestPads(t *testing.T) {
	checkAttrs(t, "pad", api.OK, nil, []int{0, 0}, []int{1, 0}, []int{0, 9}, []int{9, 2}, make([]int, 2*api.MaxRank), []int{1, 2, 3, 4, 5, 6, 7, 8}, []int{api.MaxAttr, api.MaxAttr})
	checkAttrs(t, "pad", api.ErrAttr,
		[]int{0}, []int{0, 0, 0}, make([]int, 2*api.MaxRank-1), make([]int, 2*api.MaxRank+1), make([]int, 2*api.MaxRank+2),
		[]int{-1, 0}, []int{0, -1}, []int{-1, -1}, []int{-1, 1}, []int{0, 0, -1, 0}, []int{0, 0, 0, -1}, []int{0, 0, 0, 0, 0, 0, 0, -1}, []int{-1, 0, 0, 0, 0, 0, 0, 0}, []int{math.MaxInt, math.MaxInt}, []int{math.MinInt, 0})
}

func TestDimensionOfConcat(t *testing.T) {
	checkAttrs(t, "concat", api.OK, []int{0}, []int{1}, []int{api.MaxRank - 1})
	checkAttrs(t, "concat", api.ErrAttr, []int{-1}, []int{api.MaxRank}, []int{0, 0}, []int{0, 1}, []int{math.MaxInt}, []int{math.MinInt})
}

// MaxAttr itself is no reason for an error, what is beyond it always is.
func TestGreatestAttributes(t *testing.T) {
	const over, under = api.MaxAttr + 1, -api.MaxAttr - 1
	checkAttrs(t, "scale", api.OK, []int{api.MaxAttr, 1}, []int{-api.MaxAttr, 1}, []int{1, api.MaxAttr})
	checkAttrs(t, "scale", api.ErrAttr, []int{over, 1}, []int{under, 1}, []int{1, over}, []int{over, over + 1}, []int{math.MinInt, 1}, []int{1, math.MinInt}, []int{1, math.MaxInt}, []int{math.MaxInt, 1})
	checkAttrs(t, "slice", api.OK, []int{0, api.MaxAttr})
	checkAttrs(t, "slice", api.ErrAttr, []int{0, over}, []int{api.MaxAttr, over}, []int{over, over + 1}, []int{-api.MaxAttr, 1}, []int{under, 1}, []int{0, 1, 0, over})
	checkAttrs(t, "pad", api.OK, []int{api.MaxAttr, 0}, []int{0, api.MaxAttr})
	checkAttrs(t, "pad", api.ErrAttr, []int{over, 0}, []int{0, over}, []int{-api.MaxAttr, 0}, []int{0, under}, []int{0, 0, 0, over})
	for _, name := range []string{"pow", "transpose", "reshape", "broadcast", "sum", "mean", "concat"} {
		for _, a := range []int{api.MaxAttr, -api.MaxAttr, over, under} {
			checkAttrs(t, name, api.ErrAttr, []int{a}, []int{a, 0}, []int{0, a}, []int{0, 1, a}, []int{1, a})
		}
	}
}

// In each list the version, the operation, the number of arguments and the attributes are wrong
// from some point on: the first one that is wrong gives the error.
func TestOrderOfErrors(t *testing.T) {
	for _, version := range []int{math.MinInt, -1, 0, 4, 5, math.MaxInt} {
		for _, k := range table() {
			checkNode(t, version, k.node(k.good...), api.ErrVersion)
			checkNode(t, version, k.node(99), api.ErrVersion)
			checkNode(t, version, api.Node{Op: k.op, Attrs: k.good}, api.ErrVersion)
			checkNode(t, version, api.Node{Op: k.op, Args: make([]int, 9), Attrs: []int{99}}, api.ErrVersion)
		}
		for _, o := range strangers() {
			checkNode(t, version, api.Node{Op: o}, api.ErrVersion)
			checkNode(t, version, api.Node{Op: o, Args: make([]int, 9), Attrs: []int{99}}, api.ErrVersion)
		}
	}
	for version := 1; version <= 3; version++ {
		for _, o := range strangers() {
			checkNode(t, version, api.Node{Op: o}, api.ErrOp)
			checkNode(t, version, api.Node{Op: o, Args: []int{0}}, api.ErrOp)
			checkNode(t, version, api.Node{Op: o, Args: make([]int, 9), Attrs: []int{99}}, api.ErrOp)
		}
		for _, k := range table() {
			want := [2]api.Errno{api.ErrArity, api.ErrAttr}
			if !k.isIn(version) {
				want = [2]api.Errno{api.ErrOp, api.ErrOp}
			}
			checkNode(t, version, api.Node{Op: k.op, Attrs: k.good}, want[0])
			checkNode(t, version, api.Node{Op: k.op, Attrs: []int{99, -1, 99}}, want[0])
			checkNode(t, version, api.Node{Op: k.op, Args: make([]int, 9), Attrs: []int{99, -1, 99}}, want[0])
			checkNode(t, version, k.node(99, -1, 99), want[1])
		}
	}
}

// P11.3

// counts is what the rank counts as.
func counts(rank int) int {
	if rank < 0 || rank > api.MaxRank {
		return 0
	}
	return rank
}

func TestExplicitWhereNoneHasAMeaning(t *testing.T) {
	forward := [][]int{{}, {0}, {0, 1}, {0, 1, 2}, {0, 1, 2, 3}}
	backward := [][]int{{}, {0}, {1, 0}, {2, 1, 0}, {3, 2, 1, 0}}
	twos := [][]int{{2}, {2}, {2}, {2}, {2}}
	zeros := [][]int{{0}, {0}, {0}, {0}, {0}}
	none := [][]int{{}, {}, {}, {}, {}}
	for name, want := range map[string][3][][]int{
		"pow":       {twos, none, none},
		"transpose": {backward, none, none},
		"concat":    {zeros, none, none},
		"sum":       {forward, forward, none},
		"mean":      {forward, forward, none},
		"reshape":   {none, none, none},
		"broadcast": {none, none, none},
		"slice":     {none, none, none},
		"pad":       {none, none, none},
		"scale":     {none, none, none},
		"neg":       {none, none, none},
		"square":    {none, none, none},
		"step":      {none, none, none},
		"add":       {none, none, none},
		"gemm":      {none, none, none},
	} {
		n := knownOf(t, name).node()
		for i, lists := range want {
			for _, rank := range []int{math.MinInt, -2, -1, 0, 1, 2, 3, api.MaxRank, api.MaxRank + 1, api.MaxRank + 2, math.MaxInt} {
				checkExplicit(t, i+1, n, []int{rank}, lists[counts(rank)])
			}
			checkExplicit(t, i+1, n, nil, lists[0])
			checkExplicit(t, i+1, n, []int{}, lists[0])
		}
	}
}

func TestTheFirstRankCounts(t *testing.T) {
	turned := api.Node{Op: api.OpTranspose, Args: []int{0}}
	for _, others := range [][]int{{1}, {4}, {-1}, {9}, {0, 0}, {4, 3, 2, 1, 0, 1, 2, 3}} {
		checkExplicit(t, 1, turned, append([]int{3}, others...), []int{2, 1, 0})
		checkExplicit(t, 1, turned, append([]int{0}, others...), nil)
		checkExplicit(t, 1, turned, append([]int{-1}, others...), nil)
		checkExplicit(t, 1, turned, append([]int{5}, others...), nil)
	}
	checkExplicit(t, 1, api.Node{Op: api.OpConcat, Args: []int{4, 5, 6}}, []int{3, 2, 1}, []int{0})
	checkExplicit(t, 2, api.Node{Op: api.OpSum, Args: []int{4}}, []int{2, 4}, []int{0, 1})
}

// Attributes that are there are explicit as they are, whatever the rank is.
func TestExplicitOfAttributes(t *testing.T) {
	for _, k := range table() {
		for version := -1; version <= 5; version++ {
			for rank := -1; rank <= api.MaxRank+1; rank++ {
				checkExplicit(t, version, k.node(k.good...), []int{rank}, k.good)
			}
			checkExplicit(t, version, k.node(k.good...), nil, k.good)
		}
	}
}

func TestExplicitOfInvalidNodes(t *testing.T) {
	one := []int{0}
	for _, c := range []struct {
		version int
		n       api.Node
	}{
		{0, api.Node{Op: api.OpPow, Args: one}},
		{4, api.Node{Op: api.OpPow, Args: one}},
		{-1, api.Node{Op: api.OpSum, Args: one}},
		{0, api.Node{Op: api.OpTranspose, Args: one}},
		{3, api.Node{Op: api.OpMean, Args: one}},
		{1, api.Node{Op: api.OpMean + 1, Args: one}},
		{1, api.Node{Args: one}},
		{1, api.Node{Op: -1}},
		{1, api.Node{Op: api.OpPow}},
		{1, api.Node{Op: api.OpPow, Args: []int{0, 1}}},
		{1, api.Node{Op: api.OpTranspose}},
		{1, api.Node{Op: api.OpTranspose, Args: []int{0, 1}}},
		{1, api.Node{Op: api.OpSum}},
		{2, api.Node{Op: api.OpSum, Args: []int{0, 1}}},
		{2, api.Node{Op: api.OpMean}},
		{1, api.Node{Op: api.OpConcat}},
		{1, api.Node{Op: api.OpConcat, Args: make([]int, api.MaxArgs+1)}},
		{2, api.Node{Op: api.OpPow, Args: one}},
		{2, api.Node{Op: api.OpConcat, Args: one}},
		{3, api.Node{Op: api.OpScale, Args: one}},
		{1, api.Node{Op: api.OpPow, Args: one, Attrs: []int{17}}},
		{1, api.Node{Op: api.OpTranspose, Args: one, Attrs: []int{1, 1}}},
		{1, api.Node{Op: api.OpSum, Args: one, Attrs: []int{1, 0}}},
		{1, api.Node{Op: api.OpConcat, Args: one, Attrs: []int{9, 9}}},
		{1, api.Node{Op: api.OpNeg, Args: one, Attrs: []int{7, math.MinInt}}},
		{9, api.Node{Op: 77, Attrs: []int{math.MaxInt, math.MinInt, 0}}},
	} {
		for rank := -1; rank <= api.MaxRank+1; rank++ {
			checkExplicit(t, c.version, c.n, []int{rank}, c.n.Attrs)
		}
		checkExplicit(t, c.version, c.n, nil, c.n.Attrs)
	}
}

func TestExamples(t *testing.T) {
	pow := api.Node{Op: api.OpPow, Args: []int{0}}
	checkNode(t, 2, pow, api.ErrAttr)
	checkNode(t, 1, pow, api.OK)
	checkExplicit(t, 1, api.Node{Op: api.OpTranspose, Args: []int{0}}, []int{3}, []int{2, 1, 0})
	checkNode(t, 3, api.Node{Op: api.OpSquare, Args: []int{0}}, api.ErrOp)
	checkNode(t, 3, api.Node{Op: api.OpScale, Args: []int{0}, Attrs: []int{2, 4}}, api.ErrAttr)
}
