package infer_test

import (
	"math"
	"slices"
	"strconv"
	"strings"
	"testing"

	"fluxion/api"
	"fluxion/infer"
	"fluxion/op"
	"fluxion/shape"
)

// list returns the numbers of a text, with spaces between them.
func list(text string) []int {
	var l []int
	for _, word := range strings.Fields(text) {
		n, err := strconv.Atoi(word)
		if err != nil {
			panic(err)
		}
		l = append(l, n)
	}
	return l
}

// lists returns the shapes of a text, with commas between them. It has at least one shape.
func lists(text string) []api.Shape {
	var shapes []api.Shape
	for part := range strings.SplitSeq(text, ",") {
		shapes = append(shapes, list(part))
	}
	return shapes
}

// node has so many arguments.
func node(o api.Op, args int, attrs ...int) api.Node {
	return api.Node{Op: o, Args: make([]int, args), Attrs: attrs}
}

// known is a row of the table of chapter 11.
type known struct {
	op           api.Op
	since, until int
	args         int
}

func table() []known {
	return []known{
		{api.OpAdd, 1, 3, 2}, {api.OpSub, 1, 3, 2}, {api.OpMul, 1, 3, 2}, {api.OpDiv, 1, 3, 2}, {api.OpMatMul, 1, 3, 2},
		{api.OpNeg, 1, 3, 1}, {api.OpRelu, 1, 3, 1}, {api.OpStep, 3, 3, 1}, {api.OpSquare, 1, 1, 1}, {api.OpGemm, 1, 2, 3},
		{api.OpPow, 1, 3, 1}, {api.OpScale, 3, 3, 1}, {api.OpTranspose, 1, 3, 1}, {api.OpReshape, 1, 3, 1}, {api.OpBroadcast, 1, 3, 1},
		{api.OpSum, 1, 3, 1}, {api.OpMean, 1, 2, 1}, {api.OpSlice, 1, 3, 1}, {api.OpPad, 1, 3, 1}, {api.OpConcat, 1, 3, 2},
	}
}

func knownOf(t *testing.T, o api.Op) known {
	t.Helper()
	i := slices.IndexFunc(table(), func(k known) bool { return k.op == o })
	if i < 0 {
		t.Fatal("no row for operation ", o)
	}
	return table()[i]
}

func checkNode(t *testing.T, version int, n api.Node, in []api.Shape, want api.Shape, wantE api.Errno) {
	t.Helper()
	s, e := infer.Shape(version, n, in...)
	if !slices.Equal(s, want) || e != wantE {
		t.Errorf("version %d: %s with %d arguments, the attributes %v and the shapes %v: %v, error %d, want %v, %d", version, op.Name(n.Op), len(n.Args), n.Attrs, in, s, e, want, wantE)
	}
	if e == api.OK && shape.May(s) != api.OK {
		t.Errorf("version %d: %s of %v: %v is not valid", version, op.Name(n.Op), in, s)
	}
}

// asked is a call: the attributes, the shapes of the arguments, and the shape that is wanted.
type asked struct{ attrs, in, want string }

// checkOp asks in each version in which the operation exists, with as many arguments as shapes.
func checkOp(t *testing.T, o api.Op, e api.Errno, rows ...asked) {
	t.Helper()
	k := knownOf(t, o)
	for version := k.since; version <= k.until; version++ {
		checkVersion(t, version, o, e, rows...)
	}
}

func checkVersion(t *testing.T, version int, o api.Op, e api.Errno, rows ...asked) {
	t.Helper()
	for _, r := range rows {
		in := lists(r.in)
		checkNode(t, version, node(o, len(in), list(r.attrs)...), in, list(r.want), e)
	}
}

// P12.1

func TestEqualShapes(t *testing.T) {
	for _, o := range []api.Op{api.OpAdd, api.OpSub, api.OpMul, api.OpDiv} {
		checkOp(t, o, api.OK,
			asked{"", ",", ""}, asked{"", "1,1", "1"}, asked{"", "2 3,2 3", "2 3"}, asked{"", "1024,1024", "1024"},
			asked{"", "2 1 3 1,2 1 3 1", "2 1 3 1"}, asked{"", "4 4 8 8,4 4 8 8", "4 4 8 8"})
		checkOp(t, o, api.ErrShape,
			asked{"", ",1", ""}, asked{"", "1,", ""}, asked{"", "2 3,3 2", ""}, asked{"", "2 3,2", ""}, asked{"", "2 3,3", ""}, asked{"", "6,2 3", ""},
			asked{"", "2 3,1 3", ""}, asked{"", "1 3,2 3", ""}, asked{"", "2 3,2 3 1", ""}, asked{"", "2 3,1 2 3", ""}, asked{"", "2 3 4 5,2 3 4 6", ""}, asked{"", "2 3 4 5,1 3 4 5", ""})
	}
}

func TestOneShape(t *testing.T) {
	for _, o := range []api.Op{api.OpNeg, api.OpRelu, api.OpStep, api.OpSquare} {
		checkOp(t, o, api.OK, asked{"", "", ""}, asked{"", "1", "1"}, asked{"", "4", "4"}, asked{"", "3 2", "3 2"}, asked{"", "1 2 3 4", "1 2 3 4"}, asked{"", "1024", "1024"}, asked{"", "8 8 4 4", "8 8 4 4"})
	}
}

func TestPow(t *testing.T) {
	checkOp(t, api.OpPow, api.OK, asked{"0", "2 3", "2 3"}, asked{"16", "2 3", "2 3"}, asked{"3", "", ""}, asked{"1", "4 4 8 8", "4 4 8 8"})
	checkVersion(t, 1, api.OpPow, api.OK, asked{"", "2 3", "2 3"}, asked{"", "", ""})
	checkOp(t, api.OpPow, api.ErrAttr, asked{"17", "2 3", ""}, asked{"-1", "2 3", ""})
}

func TestScale(t *testing.T) {
	checkOp(t, api.OpScale, api.OK, asked{"1 2", "2 3", "2 3"}, asked{"0 1", "", ""}, asked{"-7 3", "1024", "1024"}, asked{"2147483647 1", "4 4 8 8", "4 4 8 8"})
	checkOp(t, api.OpScale, api.ErrAttr, asked{"", "2 3", ""}, asked{"2 4", "2 3", ""})
}

// Shapes of matrices that don't fit each other.
func misfits() []string {
	return []string{"2 3,2 3", "2 3,4 3", "2 3,1 3", "1 3,1 3", "2 1,3 2", "2 3,3", "3,3 2", "3,3", ",", "2 3,", ",2 3", "1 2 3,3 4", "2 3 1,3 4", "2 3,3 4 1", "2 3,1 3 4", "2 3 4 5,5 4 3 2", "1 1 2 3,3 2"}
}

func TestMatMul(t *testing.T) {
	checkOp(t, api.OpMatMul, api.OK,
		asked{"", "2 3,3 4", "2 4"}, asked{"", "1 1,1 1", "1 1"}, asked{"", "1 5,5 1", "1 1"}, asked{"", "5 1,1 7", "5 7"}, asked{"", "4 2,2 3", "4 3"}, asked{"", "1 1024,1024 1", "1 1"},
		asked{"", "32 1,1 32", "32 32"}, asked{"", "32 32,32 32", "32 32"}, asked{"", "1024 1,1 1", "1024 1"}, asked{"", "1 1,1 1024", "1 1024"})
	checkOp(t, api.OpMatMul, api.ErrLimit,
		asked{"", "32 1,1 33", ""}, asked{"", "33 2,2 32", ""}, asked{"", "1024 1,1 2", ""}, asked{"", "2 1,1 1024", ""}, asked{"", "1024 1,1 1024", ""}, asked{"", "41 1,1 25", ""})
	for _, in := range misfits() {
		checkOp(t, api.OpMatMul, api.ErrShape, asked{"", in, ""})
	}
}

func TestGemm(t *testing.T) {
	checkOp(t, api.OpGemm, api.OK,
		asked{"", "2 3,3 4,2 4", "2 4"}, asked{"", "2 3,3 4,", "2 4"}, asked{"", "2 3,3 4,4", "2 4"}, asked{"", "2 3,3 4,1", "2 4"}, asked{"", "2 3,3 4,2 1", "2 4"}, asked{"", "2 3,3 4,1 4", "2 4"}, asked{"", "2 3,3 4,1 1", "2 4"},
		asked{"", "1 1,1 1,1 1", "1 1"}, asked{"", "2 1,1 2,2", "2 2"}, asked{"", "32 1,1 32,32 32", "32 32"}, asked{"", "1 1,1 1024,1024", "1 1024"})
	checkOp(t, api.OpGemm, api.ErrShape,
		asked{"", "2 3,3 4,3", ""}, asked{"", "2 3,3 4,2", ""}, asked{"", "2 3,3 4,2 3", ""}, asked{"", "2 3,3 4,4 2", ""}, asked{"", "2 3,3 4,1 2 4", ""}, asked{"", "2 3,3 4,1 1 1", ""}, asked{"", "2 3,3 4,2 4 1", ""}, asked{"", "1 1,1 1,2", ""}, asked{"", "1 1,1 4,2 4", ""}, asked{"", "2 1,1 1,2 2", ""}, asked{"", "32 1,1 32,33", ""})
	checkOp(t, api.OpGemm, api.ErrLimit, asked{"", "32 1,1 33,", ""}, asked{"", "33 2,2 32,33 1", ""})
	for _, in := range misfits() {
		checkOp(t, api.OpGemm, api.ErrShape, asked{"", in + ",1", ""})
	}
}

func TestTranspose(t *testing.T) {
	checkOp(t, api.OpTranspose, api.OK,
		asked{"", "", ""}, asked{"0", "5", "5"}, asked{"1 0", "2 3", "3 2"}, asked{"0 1", "2 3", "2 3"}, asked{"1 2 0", "2 3 4", "3 4 2"}, asked{"2 0 1", "2 3 4", "4 2 3"}, asked{"0 2 1", "2 3 4", "2 4 3"}, asked{"1 3 0 2", "2 3 4 5", "3 5 2 4"}, asked{"3 2 1 0", "2 3 4 5", "5 4 3 2"})
	checkOp(t, api.OpTranspose, api.ErrShape,
		asked{"0", "", ""}, asked{"0", "2 3", ""}, asked{"1 0", "2", ""}, asked{"1 0", "2 3 4", ""}, asked{"0 1 2", "2 3", ""}, asked{"0 1 2", "2 3 4 5", ""}, asked{"0 1 2 3", "2 3 4", ""}, asked{"3 2 1 0", "", ""})
	checkVersion(t, 1, api.OpTranspose, api.OK, asked{"", "5", "5"}, asked{"", "2 3", "3 2"}, asked{"", "2 3 4", "4 3 2"}, asked{"", "2 3 4 5", "5 4 3 2"})
	for version := 2; version <= 3; version++ {
		checkVersion(t, version, api.OpTranspose, api.ErrShape, asked{"", "5", ""}, asked{"", "2 3", ""}, asked{"", "2 3 4 5", ""})
	}
}

func TestReshape(t *testing.T) {
	checkOp(t, api.OpReshape, api.OK,
		asked{"", "", ""}, asked{"", "1", ""}, asked{"", "1 1 1 1", ""}, asked{"1", "", "1"}, asked{"1 1 1 1", "", "1 1 1 1"}, asked{"3 2", "6", "3 2"}, asked{"6", "2 3", "6"}, asked{"2 3", "2 3", "2 3"}, asked{"3 2", "2 3", "3 2"}, asked{"1 6 1", "3 2", "1 6 1"}, asked{"32 32", "4 4 8 8", "32 32"}, asked{"2 2 2 128", "1024", "2 2 2 128"})
	checkOp(t, api.OpReshape, api.ErrShape,
		asked{"", "2", ""}, asked{"2", "", ""}, asked{"3 3", "6", ""}, asked{"5", "6", ""}, asked{"7", "6", ""}, asked{"12", "6", ""}, asked{"3", "6", ""}, asked{"1", "1 2", ""}, asked{"1024", "1023", ""}, asked{"1023", "1024", ""}, asked{"2 3 4 5", "2 3 4 6", ""})
}

func TestBroadcast(t *testing.T) {
	checkOp(t, api.OpBroadcast, api.OK,
		asked{"", "", ""}, asked{"5", "", "5"}, asked{"1 2 3 4", "", "1 2 3 4"}, asked{"5", "1", "5"}, asked{"5 2 3", "2 1", "5 2 3"}, asked{"5 2 3", "3", "5 2 3"}, asked{"2 3", "2 3", "2 3"}, asked{"2 3", "1 3", "2 3"}, asked{"2 3", "1 1", "2 3"}, asked{"1 1 1 1", "1", "1 1 1 1"}, asked{"4 4 8 8", "4 1 8", "4 4 8 8"}, asked{"1024", "1", "1024"})
	checkOp(t, api.OpBroadcast, api.ErrShape,
		asked{"3", "2", ""}, asked{"", "1", ""}, asked{"3", "1 3", ""}, asked{"2 3", "2", ""}, asked{"2 3", "3 2", ""}, asked{"2 3", "2 2", ""}, asked{"2 3", "3 3", ""}, asked{"1", "2", ""}, asked{"2 1", "2 3", ""}, asked{"4", "2", ""}, asked{"2 3 4", "1 2 3 4", ""})
}

func TestSumAndMean(t *testing.T) {
	for _, o := range []api.Op{api.OpSum, api.OpMean} {
		checkOp(t, o, api.OK,
			asked{"0", "5", ""}, asked{"1", "2 3 4", "2 4"}, asked{"0", "2 3", "3"}, asked{"1", "2 3", "2"}, asked{"0 1", "2 3", ""}, asked{"2", "2 3 4", "2 3"}, asked{"0 2", "2 3 4", "3"}, asked{"3", "2 3 4 5", "2 3 4"}, asked{"0 3", "2 3 4 5", "3 4"}, asked{"0 1 2 3", "2 3 4 5", ""}, asked{"", "", ""})
		checkOp(t, o, api.ErrShape,
			asked{"0", "", ""}, asked{"1", "5", ""}, asked{"2", "2 3", ""}, asked{"3", "2 3", ""}, asked{"0 2", "2 3", ""}, asked{"0 1 2", "2 3", ""}, asked{"3", "2 3 4", ""}, asked{"0 1 2 3", "2 3 4", ""}, asked{"0 1 2 3", "", ""})
		for version := 1; version <= 2; version++ {
			checkVersion(t, version, o, api.OK, asked{"", "5", ""}, asked{"", "2 3", ""}, asked{"", "2 3 4 5", ""})
		}
	}
	checkVersion(t, 3, api.OpSum, api.OK, asked{"", "5", "5"}, asked{"", "2 3", "2 3"}, asked{"", "2 3 4 5", "2 3 4 5"})
}

func TestSlice(t *testing.T) {
	checkOp(t, api.OpSlice, api.OK,
		asked{"", "", ""}, asked{"0 1", "1", "1"}, asked{"0 5", "5", "5"}, asked{"4 5", "5", "1"}, asked{"1 3", "5", "2"}, asked{"1 2 0 3", "2 3", "1 3"}, asked{"0 2 1 3", "2 3", "2 2"}, asked{"1 2 0 3 2 4 1 4", "2 3 4 5", "1 3 2 3"}, asked{"0 1024", "1024", "1024"}, asked{"1023 1024", "1024", "1"})
	checkOp(t, api.OpSlice, api.ErrShape,
		asked{"0 6", "5", ""}, asked{"4 6", "5", ""}, asked{"5 6", "5", ""}, asked{"0 3 0 3", "2 3", ""}, asked{"0 2 0 4", "2 3", ""}, asked{"0 2 3 4", "2 3", ""}, asked{"0 3 0 2", "2 3", ""}, asked{"1 2 0 3 2 4 1 6", "2 3 4 5", ""}, asked{"0 2147483647", "1024", ""},
		asked{"0 1", "", ""}, asked{"", "1", ""}, asked{"", "2 3", ""}, asked{"1 2", "2 3", ""}, asked{"0 1 0 1 0 1", "2 3", ""}, asked{"0 1 0 1 0 1", "2 3 4 5", ""}, asked{"0 1 0 1 0 1 0 1", "2 3 4", ""})
}

func TestPad(t *testing.T) {
	checkOp(t, api.OpPad, api.OK,
		asked{"", "", ""}, asked{"0 0", "5", "5"}, asked{"1 0", "5", "6"}, asked{"0 1", "5", "6"}, asked{"1 0 0 2", "2 2", "3 4"}, asked{"0 1 2 0", "2 3", "3 5"}, asked{"1 0 0 1 1 1 0 0", "2 3 4 5", "3 4 6 5"})
	checkOp(t, api.OpPad, api.OK, asked{"1000 22", "2", "1024"}, asked{"15 16 16 15", "1 1", "32 32"}, asked{"0 0 0 0", "32 32", "32 32"}, asked{"0 0 0 0 4 0 0 4", "4 4 4 4", "4 4 8 8"})
	checkOp(t, api.OpPad, api.ErrLimit,
		asked{"1001 22", "2", ""}, asked{"0 1", "1024", ""}, asked{"15 16 16 16", "1 1", ""}, asked{"0 0 0 1", "32 32", ""}, asked{"1 0 0 0", "32 32", ""}, asked{"0 0 0 0 4 0 0 5", "4 4 4 4", ""}, asked{"2147483647 2147483647", "2", ""}, asked{"2147483647 2147483647 2147483647 2147483647 2147483647 2147483647 2147483647 2147483647", "4 4 8 8", ""})
	checkOp(t, api.OpPad, api.ErrShape,
		asked{"0 0", "", ""}, asked{"", "1", ""}, asked{"", "2 3", ""}, asked{"0 0", "2 3", ""}, asked{"0 0 0 0 0 0", "2 3", ""}, asked{"0 0 0 0 0 0", "2 3 4 5", ""}, asked{"0 0 0 0 0 0 0 0", "2 3 4", ""})
}

func TestConcat(t *testing.T) {
	checkOp(t, api.OpConcat, api.OK,
		asked{"0", "5", "5"}, asked{"0", "2,4", "6"}, asked{"0", "2 3,5 3", "7 3"}, asked{"1", "2 1,2 4,2 2", "2 7"}, asked{"0", "2 3,2 3", "4 3"}, asked{"1", "2 3,2 3", "2 6"}, asked{"2", "2 3 1,2 3 9", "2 3 10"}, asked{"3", "2 1 3 4,2 1 3 5", "2 1 3 9"}, asked{"0", "1 3 4 5,2 3 4 5", "3 3 4 5"}, asked{"3", "2 3 4 5", "2 3 4 5"},
		asked{"0", "1,2,3,4,5,6,7,8", "36"}, asked{"1", "2 8,2 7,2 6,2 5,2 4,2 3,2 2,2 1", "2 36"})
	checkOp(t, api.OpConcat, api.OK, asked{"0", "1023,1", "1024"}, asked{"1", "32 1,32 31", "32 32"}, asked{"0", "128,128,128,128,128,128,128,128", "1024"}, asked{"0", "1024", "1024"})
	checkOp(t, api.OpConcat, api.ErrLimit, asked{"0", "1023,2", ""}, asked{"0", "1024,1", ""}, asked{"1", "32 1,32 32", ""}, asked{"0", "128,128,128,128,128,128,128,129", ""}, asked{"0", "1024,1024,1024,1024,1024,1024,1024,1024", ""}, asked{"2", "4 4 64 1,4 4 1 1", ""})
	checkOp(t, api.OpConcat, api.ErrShape,
		asked{"0", "", ""}, asked{"1", "5", ""}, asked{"2", "2 1,2 1", ""}, asked{"3", "2 3 4", ""}, asked{"3", "2 3 4,2 3 4", ""},
		asked{"1", "2 1,3 1", ""}, asked{"0", "2 1,2 2", ""}, asked{"0", "2 3 4,2 3 5", ""}, asked{"1", "2 3 4,2 9 5", ""}, asked{"0", "2 3,2 3,2 4", ""}, asked{"0", "1 1,2 1,3 1,4 1,5 1,6 1,7 1,8 2", ""},
		asked{"0", "2,2 1", ""}, asked{"0", "2 1,2", ""}, asked{"0", "2,", ""}, asked{"0", ",2", ""}, asked{"0", "3,1 3", ""}, asked{"0", "1 3,3", ""}, asked{"1", "2 3,2", ""}, asked{"1", "2 3,2 3 1", ""}, asked{"1", "2,2 3", ""}, asked{"0", "2 3 4 5,3 4 5", ""})
	checkVersion(t, 1, api.OpConcat, api.OK, asked{"", "5", "5"}, asked{"", "2,4", "6"}, asked{"", "2 3,5 3", "7 3"})
	checkVersion(t, 1, api.OpConcat, api.ErrShape, asked{"", "", ""}, asked{"", "2 3,2 5", ""})
}

// Each operation, in each version: where it doesn't exist, no shape is returned either.
func TestEveryOperationInEveryVersion(t *testing.T) {
	good := map[api.Op]asked{
		api.OpMatMul: {"", "2 3,3 4", "2 4"}, api.OpGemm: {"", "2 3,3 4,4", "2 4"}, api.OpPow: {"3", "2", "2"}, api.OpScale: {"3 2", "2", "2"},
		api.OpTranspose: {"1 0", "2 3", "3 2"}, api.OpReshape: {"3 2", "6", "3 2"}, api.OpBroadcast: {"3 2", "2", "3 2"}, api.OpSum: {"0", "2 3", "3"}, api.OpMean: {"0", "2 3", "3"},
		api.OpSlice: {"1 3", "5", "2"}, api.OpPad: {"1 3", "5", "9"}, api.OpConcat: {"0", "1,4", "5"},
	}
	for _, k := range table() {
		row, ok := good[k.op]
		if !ok {
			row = asked{"", strings.Repeat(",2 3", k.args)[1:], "2 3"}
		}
		for version := 1; version <= 3; version++ {
			if k.since <= version && version <= k.until {
				checkVersion(t, version, k.op, api.OK, row)
			} else {
				checkVersion(t, version, k.op, api.ErrOp, asked{row.attrs, row.in, ""})
			}
		}
	}
	if len(table()) != int(api.OpMean) {
		t.Errorf("%d operations are tested", len(table()))
	}
}

// The order of the errors: each one beside all later ones.

func TestErrorsOfNodes(t *testing.T) {
	bad := lists("1 0,1025,2 3")
	for _, in := range [][]api.Shape{nil, bad[:1], bad[:2], bad, lists("2"), lists("2,3"), lists("33 1,1 32")} {
		for _, version := range []int{math.MinInt, -1, 0, 4, math.MaxInt} {
			for _, o := range []api.Op{0, -1, 21, api.OpSquare, api.OpStep, api.OpAdd, api.OpPad, api.OpConcat} {
				checkNode(t, version, node(o, 9, 4, -1, 7), in, nil, api.ErrVersion)
				checkNode(t, version, node(o, 1), in, nil, api.ErrVersion)
			}
		}
		for _, o := range []api.Op{0, -1, 21, math.MaxInt, math.MinInt} {
			checkNode(t, 1, node(o, 9, 4, -1, 7), in, nil, api.ErrOp)
			checkNode(t, 3, node(o, 1), in, nil, api.ErrOp)
		}
		checkNode(t, 2, node(api.OpSquare, 9, 4, -1, 7), in, nil, api.ErrOp)
		checkNode(t, 3, node(api.OpGemm, 9, 4, -1, 7), in, nil, api.ErrOp)
		checkNode(t, 2, node(api.OpStep, 9, 4, -1, 7), in, nil, api.ErrOp)
		for _, args := range []int{0, api.MaxArgs + 1} {
			for _, k := range table() {
				checkNode(t, k.since, node(k.op, args, 4, -1, 7), in, nil, api.ErrArity)
			}
		}
		for _, k := range table() {
			checkNode(t, k.since, node(k.op, k.args, 4, -1, 7), in, nil, api.ErrAttr)
			checkNode(t, k.since, node(k.op, k.args, api.MaxAttr+1), in, nil, api.ErrAttr)
		}
	}
}

// Fewer and more shapes than arguments go before a shape that is not valid.
func TestNumbersOfShapes(t *testing.T) {
	for _, in := range []string{"0", "2 3", "1025", "1 1 1 1 1", "2,0", "0,2", "2 3,2 3,0", "2 3,2 3,2 3", "1025,0,2,3,4"} {
		shapes := lists(in)
		for args := 1; args <= api.MaxArgs; args++ {
			if args != len(shapes) {
				checkNode(t, 3, node(api.OpConcat, args, 0), shapes, nil, api.ErrArity)
				checkNode(t, 3, node(api.OpConcat, args, 3), shapes, nil, api.ErrArity)
			}
		}
		if len(shapes) != 2 {
			checkNode(t, 3, node(api.OpAdd, 2), shapes, nil, api.ErrArity)
			checkNode(t, 3, node(api.OpMatMul, 2), shapes, nil, api.ErrArity)
		}
		if len(shapes) != 1 {
			checkNode(t, 3, node(api.OpRelu, 1), shapes, nil, api.ErrArity)
			checkNode(t, 1, node(api.OpTranspose, 1), shapes, nil, api.ErrArity)
		}
		if len(shapes) != 3 {
			checkNode(t, 1, node(api.OpGemm, 3), shapes, nil, api.ErrArity)
		}
	}
	for _, k := range table() {
		for _, attrs := range []string{"", "0", "0 1", "2", "1 0"} {
			n := node(k.op, k.args, list(attrs)...)
			if op.Check(k.since, n) == api.OK {
				checkNode(t, k.since, n, nil, nil, api.ErrArity)
				checkNode(t, k.since, n, []api.Shape{}, nil, api.ErrArity)
			}
		}
	}
}

// badShapes are shapes that are not valid, with their errors by chapter 6.
func badShapes() map[string]api.Errno {
	return map[string]api.Errno{
		"0": api.ErrShape, "-1": api.ErrShape, "2 0": api.ErrShape, "1025 0": api.ErrShape, "0 1025": api.ErrShape, "1 1 1 -3": api.ErrShape,
		"1025": api.ErrLimit, "32 33": api.ErrLimit, "1 1 1 1 1": api.ErrLimit, "0 0 0 0 0": api.ErrLimit, "4 4 8 9": api.ErrLimit, "4294967296 4294967296": api.ErrLimit,
	}
}

// The first shape that is not valid goes before all later ones, and before the condition.
func TestShapesThatAreNotValid(t *testing.T) {
	for s, e := range badShapes() {
		for _, o := range []api.Op{api.OpNeg, api.OpRelu, api.OpStep, api.OpSquare} {
			checkOp(t, o, e, asked{"", s, ""})
		}
		checkOp(t, api.OpPow, e, asked{"2", s, ""})
		checkOp(t, api.OpScale, e, asked{"1 2", s, ""})
		checkOp(t, api.OpTranspose, e, asked{"1 0", s, ""}, asked{"", s, ""}, asked{"0", s, ""})
		checkOp(t, api.OpReshape, e, asked{"1", s, ""}, asked{"2 3", s, ""}, asked{"", s, ""})
		checkOp(t, api.OpBroadcast, e, asked{"1", s, ""}, asked{"2 3", s, ""}, asked{"", s, ""})
		checkOp(t, api.OpSum, e, asked{"0", s, ""}, asked{"3", s, ""}, asked{"", s, ""})
		checkOp(t, api.OpMean, e, asked{"0", s, ""}, asked{"3", s, ""}, asked{"", s, ""})
		checkOp(t, api.OpSlice, e, asked{"0 1", s, ""}, asked{"", s, ""}, asked{"0 1 0 1", s, ""})
		checkOp(t, api.OpPad, e, asked{"0 1", s, ""}, asked{"", s, ""}, asked{"0 2000 1 1", s, ""})
		checkOp(t, api.OpConcat, e, asked{"0", s, ""}, asked{"3", s, ""})
		for other, f := range badShapes() {
			for _, o := range []api.Op{api.OpAdd, api.OpSub, api.OpMul, api.OpDiv, api.OpMatMul} {
				checkOp(t, o, e, asked{"", s + "," + other, ""}, asked{"", s + ",2 3", ""}, asked{"", "2 3," + s, ""}, asked{"", "33 1," + s, ""}, asked{"", s + "," + s, ""})
			}
			checkOp(t, api.OpGemm, e, asked{"", s + "," + other + "," + other, ""}, asked{"", "2 3," + s + "," + other, ""}, asked{"", "2 3,3 4," + s, ""}, asked{"", "2 3,2 3," + s, ""}, asked{"", "33 1,1 32," + s, ""})
			checkOp(t, api.OpConcat, e, asked{"0", "2," + s + "," + other, ""}, asked{"1", "2 3,3 2," + s, ""}, asked{"3", "1024,1024," + s + ",3", ""})
			checkOp(t, api.OpConcat, f, asked{"0", "2,3,4,5,6,7," + other + "," + s, ""})
		}
	}
}

// A condition that does not hold goes before a result with too many elements.
func TestConditionAndLimit(t *testing.T) {
	checkOp(t, api.OpMatMul, api.ErrShape, asked{"", "1024 1,2 512", ""}, asked{"", "33 2,1 32", ""}, asked{"", "1024,1 1024", ""}, asked{"", "512 2,2 512 1", ""})
	checkOp(t, api.OpPad, api.ErrShape, asked{"2000 0", "2 3", ""}, asked{"2000 0 0 0 0 0", "2 3", ""}, asked{"2000 0", "", ""}, asked{"2147483647 2147483647 0 0", "2", ""})
	checkOp(t, api.OpConcat, api.ErrShape, asked{"0", "512 1,512 1,1 2", ""}, asked{"1", "1024,1024", ""}, asked{"0", "1024 1,1024", ""}, asked{"0", "1000,1000,1 1", ""})
}

func TestErrorsOfGemm(t *testing.T) {
	checkOp(t, api.OpGemm, api.ErrShape,
		asked{"", "33 2,1 32,1 1 1", ""}, asked{"", "33 2,1 32,", ""}, asked{"", "1024,1 1024,5", ""}, asked{"", "1024 1,1024,", ""}, asked{"", "2 3,2 3,9", ""})
	checkOp(t, api.OpGemm, api.ErrLimit,
		asked{"", "33 1,1 32,3", ""}, asked{"", "33 1,1 32,33 32 1", ""}, asked{"", "33 1,1 32,1 1 1 1", ""}, asked{"", "1024 1,1 1024,1023", ""}, asked{"", "33 1,1 32,32 1", ""})
	checkOp(t, api.OpGemm, api.ErrShape, asked{"", "32 1,1 32,3", ""}, asked{"", "32 1,1 32,1 1 1", ""})
}

// P12.2

func checkGrows(t *testing.T, o api.Op, want bool, rows ...asked) {
	t.Helper()
	k := knownOf(t, o)
	for _, r := range rows {
		in := lists(r.in)
		for version := k.since; version <= k.until; version++ {
			if got := infer.Grows(version, node(o, len(in), list(r.attrs)...), in...); got != want {
				t.Errorf("version %d: Grows of %s with the attributes %s and the shapes %s: %t", version, op.Name(o), r.attrs, r.in, got)
			}
		}
	}
}

func TestGrows(t *testing.T) {
	checkGrows(t, api.OpPad, true, asked{"0 1", "2", ""}, asked{"1 0", "1023", ""}, asked{"1 0 0 0", "1 1", ""}, asked{"1 1 1 1 0 0 0 0", "2 3 4 5", ""})
	checkGrows(t, api.OpPad, false, asked{"", "", ""}, asked{"0 0", "2", ""}, asked{"0 0 0 0", "32 32", ""})
	checkGrows(t, api.OpBroadcast, true, asked{"2", "", ""}, asked{"2", "1", ""}, asked{"3 2", "2", ""}, asked{"1024", "1", ""})
	checkGrows(t, api.OpBroadcast, false, asked{"", "", ""}, asked{"1 1", "", ""}, asked{"1 1 2", "2", ""}, asked{"1 1024", "1024", ""})
	checkGrows(t, api.OpConcat, false, asked{"0", "2,3", ""}, asked{"0", "5", ""}, asked{"0", "1,1,1,1,1,1,1,1", ""}, asked{"1", "2 3,2 9", ""}, asked{"0", "1023,1", ""})
	checkGrows(t, api.OpAdd, false, asked{"", ",", ""}, asked{"", "1024,1024", ""})
	checkGrows(t, api.OpReshape, false, asked{"3 2", "6", ""})
	for _, o := range []api.Op{api.OpNeg, api.OpRelu, api.OpStep, api.OpSquare} {
		checkGrows(t, o, false, asked{"", "", ""}, asked{"", "1", ""}, asked{"", "2 3", ""})
	}
}

// The result has as many elements as all arguments together, or one more, or one less.
func TestGrowsOfProducts(t *testing.T) {
	checkGrows(t, api.OpMatMul, false, asked{"", "2 1,1 2", ""}, asked{"", "4 2,2 4", ""}, asked{"", "1 1,1 1", ""}, asked{"", "1 3,3 1", ""})
	checkGrows(t, api.OpMatMul, true, asked{"", "3 1,1 3", ""}, asked{"", "32 1,1 32", ""})
	for a := 1; a <= 6; a++ {
		for b := 1; b <= 6; b++ {
			for c := 1; c <= 6; c++ {
				x, y := api.Shape{a, b}, api.Shape{b, c}
				if got := infer.Grows(3, node(api.OpMatMul, 2), x, y); got != (a*c > a*b+b*c) {
					t.Errorf("Grows of the product of %v and %v: %t", x, y, got)
				}
			}
		}
	}
	checkGrows(t, api.OpGemm, false, asked{"", "3 1,1 3,3", ""}, asked{"", "3 1,1 3,3 3", ""}, asked{"", "3 1,1 3,3 1", ""})
	checkGrows(t, api.OpGemm, true, asked{"", "3 1,1 3,", ""}, asked{"", "3 1,1 3,1 1", ""}, asked{"", "3 1,1 4,4", ""}, asked{"", "2 1,1 4,1", ""})
	checkGrows(t, api.OpGemm, false, asked{"", "2 1,1 5,5", ""}, asked{"", "2 1,1 3,1", ""}, asked{"", "2 1,1 4,2 1", ""})
}

func TestGrowsOfErrors(t *testing.T) {
	checkGrows(t, api.OpPad, false, asked{"0 2000", "2", ""}, asked{"0 1023", "2", ""}, asked{"0 1", "", ""}, asked{"1 0", "0", ""}, asked{"-1 5", "2", ""}, asked{"0 1", "2 3", ""}, asked{"1 1 1 1 1", "1 1", ""})
	checkGrows(t, api.OpMatMul, false, asked{"", "33 1,1 32", ""}, asked{"", "3 1,2 3", ""})
	checkGrows(t, api.OpGemm, false, asked{"", "33 1,1 32,", ""}, asked{"", "4 1,1 4,3", ""})
	checkGrows(t, api.OpBroadcast, false, asked{"3 3", "2", ""}, asked{"2000", "1", ""}, asked{"3", "0", ""})
	checkGrows(t, api.OpConcat, false, asked{"0", "1024,1", ""}, asked{"1", "1,2", ""})
	for _, version := range []int{0, 4} {
		if infer.Grows(version, node(api.OpPad, 1, 0, 1), api.Shape{2}) {
			t.Errorf("a node of version %d grows", version)
		}
	}
	one := api.Shape{1}
	if infer.Grows(2, node(api.OpScale, 1, 1, 2), one) || infer.Grows(3, node(0, 1)) || infer.Grows(3, node(api.OpRelu, 1)) || infer.Grows(3, node(api.OpBroadcast, 1, 5), one, one) || infer.Grows(3, node(api.OpBroadcast, 2, 5), one) || infer.Grows(3, node(api.OpRelu, 0)) {
		t.Error("a node with an error grows")
	}
}

// The table of the chapter's section Examples, and the examples of DOC.md that have shapes.
func TestExamples(t *testing.T) {
	checkOp(t, api.OpMatMul, api.OK, asked{"", "2 3,3 4", "2 4"}, asked{"", "2 3,3 1", "2 1"})
	checkOp(t, api.OpMatMul, api.ErrShape, asked{"", "2 3,2 3", ""}, asked{"", "3 1,2 3", ""})
	checkOp(t, api.OpGemm, api.OK, asked{"", "2 3,3 4,4", "2 4"})
	checkOp(t, api.OpGemm, api.ErrShape, asked{"", "2 3,3 4,3", ""})
	checkOp(t, api.OpSum, api.OK, asked{"1", "2 3 4", "2 4"})
	checkOp(t, api.OpPad, api.OK, asked{"1 0 0 2", "2 2", "3 4"})
	checkOp(t, api.OpConcat, api.OK, asked{"0", "2 3,5 3", "7 3"})
}
