package graph_test

import (
	"fmt"
	"slices"
	"strconv"
	"strings"
	"testing"

	"fluxion/api"
	"fluxion/graph"
	"fluxion/op"
	"fluxion/rat"
	"fluxion/shape"
)

// list returns the numbers of a text, with spaces between them.
func list(text string) []int {
	var l []int
	for _, word := range strings.Fields(text) {
		n, err := strconv.Atoi(word)
		if err != nil {
			panic(err)
		}
		l = append(l, n)
	}
	return l
}

// lists returns the shapes of a text, with commas between them; "-" is no shape at all.
func lists(text string) []api.Shape {
	if text == "-" {
		return nil
	}
	var shapes []api.Shape
	for part := range strings.SplitSeq(text, ",") {
		shapes = append(shapes, list(part))
	}
	return shapes
}

// counted returns a tensor with the elements 1, 2 and so on (none for a shape that is not valid).
func counted(s api.Shape) api.Tensor {
	x := api.Tensor{Shape: s}
	for n := range shape.Count(s) {
		x.Elems = append(x.Elems, rat.Int(int64(n+1)))
	}
	return x
}

// nodeOf reads a node from a text: name, arguments, and attributes behind a comma.
func nodeOf(text string) api.Node {
	name, rest, _ := strings.Cut(strings.TrimSpace(text), " ")
	args, attrs, _ := strings.Cut(rest, ",")
	o, e := op.Of(name)
	if e != api.OK {
		panic(text)
	}
	return api.Node{Op: o, Args: list(args), Attrs: list(attrs)}
}

// graphOf reads a graph from a text whose parts have semicolons between them. The nodes and outputs
// behind the part vjp are those of the VJP.
func graphOf(text string) api.Graph {
	var g api.Graph
	body := &g.Body
	for part := range strings.SplitSeq(text, ";") {
		kind, rest, _ := strings.Cut(strings.TrimSpace(part), " ")
		name, dims, _ := strings.Cut(rest, " ")
		switch kind {
		case "version":
			g.Version = list(rest)[0]
		case "input":
			g.Inputs = append(g.Inputs, api.Port{Name: name, Shape: list(dims)})
		case "weight":
			g.Weights = append(g.Weights, api.Weight{Name: name, Value: counted(list(dims))})
		case "node":
			body.Nodes = append(body.Nodes, nodeOf(rest))
		case "out":
			body.Outputs = append(body.Outputs, list(rest)...)
		case "vjp":
			g.HasVJP = true
			body = &g.VJP
		case "":
		default:
			panic(part)
		}
	}
	return g
}

// tell is the same for nil and empty lists.
func tell(g api.Graph) string { return fmt.Sprintf("%v", g) }

func brief(g api.Graph) string {
	s := tell(g)
	if len(s) > 300 {
		return s[:300] + " .."
	}
	return s
}

func checkGraph(t *testing.T, what string, g api.Graph, want api.Errno) {
	t.Helper()
	if e := graph.Check(g); e != want {
		t.Errorf("%s: error %d, want %d: %s", what, e, want, brief(g))
	}
	l, e := graph.Shapes(g)
	if e != want || want != api.OK && len(l) != 0 || want == api.OK && len(l) != graph.Refs(g) {
		t.Errorf("%s: %d shapes, error %d, want %d: %s", what, len(l), e, want, brief(g))
	}
}

func checkText(t *testing.T, text string, want api.Errno) {
	t.Helper()
	checkGraph(t, text, graphOf(text), want)
}

func checkShapes(t *testing.T, text, want string) {
	t.Helper()
	l, e := graph.Shapes(graphOf(text))
	if e != api.OK || !slices.EqualFunc(l, lists(want), shape.Same) {
		t.Errorf("%s: the shapes %v, error %d, want %s", text, l, e, want)
	}
	checkText(t, text, api.OK)
}

// row is a valid graph and the shapes of its references.
type row struct{ text, shapes string }

func valid() []row {
	return []row{
		{"version 1", "-"},
		{"version 2", "-"},
		{"version 3", "-"},
		{"version 3; vjp", "-"},
		{"version 3; input x; out 0; vjp; out 1", ""},
		{"version 3; input x 2 3; weight w 3 1; node matmul 0 1; node relu 2; out 3", "2 3,3 1,2 1,2 1"},
		{"version 1; input x 4; input y 2 2; weight a; weight b 3", "4,2 2,,3"},
		{"version 1; input x 2 3; node square 0; node transpose 1; node matmul 1 2; node pow 3; out 4 2", "2 3,2 3,3 2,2 2,2 2"},
		{"version 1; input x 2 3; input y 2 3; node concat 0 1; node sum 2; node mean 0, 1; out 3 4", "2 3,2 3,4 3,,2"},
		{"version 2; input x 2 3; weight w 3 4; weight b 4; node gemm 0 1 2; node mean 3; node sum 3, 0; out 4 5 5", "2 3,3 4,4,2 4,,4"},
		{"version 2; weight w 2 2; node pow 0, 3; node transpose 1, 1 0; node concat 1 2 0, 1; out 3", "2 2,2 2,2 2,2 6"},
		{"version 3; input x 2 3; node step 0; node scale 1, -1 2; node reshape 2, 3 2 1; node slice 3, 1 3 0 1 0 1; node pad 4, 0 0 1 0 0 2; node broadcast 5, 4 2 2 3; out 6", "2 3,2 3,2 3,3 2 1,2 1 1,2 2 3,4 2 2 3"},
		{"version 3; input x 2; node sum 0, ; node sum 0, 0; node add 1 0; node neg 2; node sub 4 2; node mul 5 5; node div 6 6; out 0 0 7", "2,2,,2,,,,"},
		{"version 3; input x 2; node mul 0 0; out 1; vjp; node mul 0 1; node add 2 2; out 3", "2,2"},
		{"version 3; input x 2 3; weight w 3 1; node matmul 0 1; out 2; vjp; node transpose 2, 1 0; node matmul 1 3; out 4", "2 3,3 1,2 1"},
		{"version 3; input x 2; input y 3; node neg 1; out 1 2 0; vjp; node sub 2 3; out 4 5", "2,3,3"},
		{"version 3; input x 2; weight w 3; vjp; node scale 0, 0 1; out 2", "2,3"},
		{"version 3; weight w 3; node neg 0; out 1 0; vjp; node add 0 1; node mul 3 2", "3,3"},
		{"version 3; input x 2; input ~0 2; node mul 0 1; node add 2 2; out 3", "2,2,2,2"},
		{"version 2; input ~63 3; input x 2; input ~7; out 0 1", "3,2,"},
	}
}

func copies(text string, n int) string {
	return strings.Repeat(text, n)
}

// P13.1

func TestShapes(t *testing.T) {
	for _, r := range valid() {
		checkShapes(t, r.text, r.shapes)
	}
}

func TestExamples(t *testing.T) {
	start := "version 3; input x 2 3; weight w 3 1; node matmul 0 1; node relu 2; out 3"
	checkShapes(t, start, "2 3,3 1,2 1,2 1")
	g := graphOf(start)
	g.Body.Nodes[0].Args[1] = 3
	checkGraph(t, "a later node", g, api.ErrRef)
}

func TestVersions(t *testing.T) {
	for _, version := range []int{-3, -1, 0, 4, 5, 1 << 40} {
		checkGraph(t, "version", api.Graph{Version: version}, api.ErrVersion)
	}
	checkGraph(t, "the zero graph", api.Graph{}, api.ErrVersion)
	for version := 1; version <= 3; version++ {
		checkGraph(t, "version", api.Graph{Version: version}, api.OK)
	}
}

// named returns so many inputs.
func named(prefix string, n int) []api.Port {
	var l []api.Port
	for i := range n {
		l = append(l, api.Port{Name: prefix + strconv.Itoa(i), Shape: api.Shape{1 + i%3}})
	}
	return l
}

func weights(n int) []api.Weight {
	var l []api.Weight
	for _, p := range named("w", n) {
		l = append(l, api.Weight{Name: p.Name, Value: counted(p.Shape)})
	}
	return l
}

func TestNumbersOfPorts(t *testing.T) {
	for version := 1; version <= 3; version++ {
		plain, own := named("x", api.MaxPorts), named("~", api.MaxOuts)
		checkGraph(t, "64 inputs and weights", api.Graph{Version: version, Inputs: plain, Weights: weights(64)}, api.OK)
		checkGraph(t, "65 inputs", api.Graph{Version: version, Inputs: named("x", 65)}, api.ErrLimit)
		checkGraph(t, "65 weights", api.Graph{Version: version, Weights: weights(65)}, api.ErrLimit)
		checkGraph(t, "128 inputs", api.Graph{Version: version, Inputs: named("x", 128)}, api.ErrLimit)
		checkGraph(t, "64 cotangents", api.Graph{Version: version, Inputs: own}, api.OK)
		checkGraph(t, "64 inputs, 64 cotangents", api.Graph{Version: version, Inputs: slices.Concat(plain, own), Weights: weights(64)}, api.OK)
		checkGraph(t, "64 cotangents, 64 inputs", api.Graph{Version: version, Inputs: slices.Concat(own, plain)}, api.OK)
		checkGraph(t, "127 inputs, one cotangent", api.Graph{Version: version, Inputs: slices.Concat(named("x", 127), own[5:6])}, api.OK)
		checkGraph(t, "128 inputs, one cotangent", api.Graph{Version: version, Inputs: slices.Concat(own[5:6], named("x", 128))}, api.ErrLimit)
		checkGraph(t, "one cotangent, 128 inputs", api.Graph{Version: version, Inputs: slices.Concat(named("x", 128), own[:1])}, api.ErrLimit)
		checkGraph(t, "65 weights beside a cotangent", api.Graph{Version: version, Inputs: own[:1], Weights: weights(65)}, api.ErrLimit)
		checkGraph(t, "~64 is no cotangent", api.Graph{Version: version, Inputs: append(plain, api.Port{Name: "~64"})}, api.ErrLimit)
	}
}

// names tells of each name whether it is plain.
func names() map[string]bool {
	long := strings.Repeat("abcdefg_", 4)
	all := map[string]bool{
		"a": true, "z": true, "m": true, "a_": true, "a0": true, "z9": true, "x1y2": true, "a__b": true, "abcdefghijklmnopqrstuvwxyz": true, "q0123456789": true,
		long: true, long[1:]: true, long + "a": false, "a" + long: false, strings.Repeat(long, 9): false,
		"": false, "_": false, "_a": false, "0": false, "0a": false, "9": false, "A": false, "aB": false, "Ab": false, "Z": false, "aZ": false,
		" ": false, "a ": false, " a": false, "a b": false, "a\n": false, "a\x00": false, "\x00": false, "a-b": false, "a.b": false, "a~": false, "~": false, "~a": false, "%0": false,
		"`": false, "{": false, "a`": false, "a{": false, "a/": false, "a:": false, "a@": false, "a[": false, "a^": false,
		"\xff": false, "a\xff": false, "a\x80b": false, "\u00e9": false, "a\u00e9": false, "a\u0430": false, "\u0661": false, "a\u0661": false, "a\uff11": false, "\ufffd": false, "a\xe1": false,
		strings.Repeat("\u00e9", 16): false, strings.Repeat("a", 31) + "\u00e9": false,
	}
	for c := range 256 {
		b := byte(c)
		isLetter := strings.IndexByte("abcdefghijklmnopqrstuvwxyz", b) >= 0
		all[string([]byte{b})] = isLetter
		all[string([]byte{'a', b})] = isLetter || strings.IndexByte("_0123456789", b) >= 0
		all[string([]byte{'a', b, 'a'})] = isLetter || strings.IndexByte("_0123456789", b) >= 0
	}
	return all
}

func cotangents() map[string]bool {
	all := map[string]bool{
		"~": false, "~~0": false, "~00": false, "~01": false, "~063": false, "~007": false, "~64": false, "~65": false, "~99": false, "~100": false, "~630": false,
		"~-1": false, "~-0": false, "~+1": false, "~+0": false, "~ 1": false, "~1 ": false, " ~1": false, "~1_": false, "~1_0": false, "~0x1": false, "~1.0": false, "~1e1": false, "~a": false,
		"0~": false, "a~0": false, "0": false, "~18446744073709551616": false, "~4294967296": false, "~\u0661": false, "~\uff11": false, "~" + strings.Repeat("0", 40): false, "~" + strings.Repeat("9", 400): false,
	}
	for k := range api.MaxOuts {
		all["~"+strconv.Itoa(k)] = true
	}
	return all
}

func nameError(mayBe bool) api.Errno {
	if mayBe {
		return api.OK
	}
	return api.ErrName
}

func TestNamesOfPorts(t *testing.T) {
	for name, isPlain := range names() {
		what := strconv.Quote(name)
		checkGraph(t, what, api.Graph{Version: 3, Inputs: []api.Port{{Name: "v"}, {Name: name, Shape: api.Shape{2}}}}, nameError(isPlain && name != "v"))
		checkGraph(t, what, api.Graph{Version: 3, Weights: []api.Weight{{Name: name, Value: counted(api.Shape{2})}}}, nameError(isPlain))
	}
	for name, mayBe := range cotangents() {
		what := strconv.Quote(name)
		checkGraph(t, what, api.Graph{Version: 3, Inputs: []api.Port{{Name: "x"}, {Name: name, Shape: api.Shape{2}}}}, nameError(mayBe))
		checkGraph(t, what, api.Graph{Version: 3, Weights: []api.Weight{{Name: name, Value: counted(api.Shape{2})}}}, api.ErrName)
	}
}

func TestNamesComeOnce(t *testing.T) {
	for _, text := range []string{
		"input x; input x", "input x; input y; input x 2", "input ~3; input ~3", "input ~3; input x; input ~3",
		"input x; weight x", "input x; input y; weight a; weight x", "weight a; weight a", "weight a; weight b; weight a 2", "input ~1; weight ~1",
	} {
		checkText(t, "version 3; "+text, api.ErrName)
	}
	checkText(t, "version 3; input x; input xx; input x_; input x0; weight y; weight yx; input ~1; input ~11", api.OK)
}

func TestShapesOfInputs(t *testing.T) {
	for s, e := range map[string]api.Errno{"": api.OK, "1024": api.OK, "4 4 8 8": api.OK, "1 1 1 1": api.OK, "0": api.ErrShape, "2 -1": api.ErrShape, "1025": api.ErrLimit, "33 32": api.ErrLimit, "1 1 1 1 1": api.ErrLimit, "0 0 0 0 0": api.ErrLimit, "2000 0": api.ErrShape} {
		checkText(t, "version 2; input a; input x "+s, e)
		checkText(t, "version 3; input ~0 "+s+"; input a", e)
	}
}

// weighted has a weight of three elements behind another one.
func weighted(change func(x *api.Tensor)) api.Graph {
	g := graphOf("version 3; input x; weight a 2; weight w 3; out 1 2")
	change(&g.Weights[1].Value)
	return g
}

// limbs returns a number of so many limbs, whose last one is 1.
func limbs(n int) api.Nat {
	a := make(api.Nat, n)
	a[0], a[n-1] = 1, 1
	return a
}

func TestValuesOfWeights(t *testing.T) {
	one := api.Nat{1}
	for i, c := range []struct {
		change func(x *api.Tensor)
		want   api.Errno
	}{
		{func(x *api.Tensor) {}, api.OK},
		{func(x *api.Tensor) { x.Shape = api.Shape{1, 3, 1} }, api.OK},
		{func(x *api.Tensor) { x.Shape = api.Shape{3, 1, 1, 1, 1} }, api.ErrLimit},
		{func(x *api.Tensor) { x.Shape = api.Shape{-3} }, api.ErrShape},
		{func(x *api.Tensor) { x.Shape = api.Shape{1025} }, api.ErrLimit},
		{func(x *api.Tensor) { x.Shape = api.Shape{2} }, api.ErrShape},
		{func(x *api.Tensor) { x.Shape = api.Shape{4} }, api.ErrShape},
		{func(x *api.Tensor) { x.Shape = nil }, api.ErrShape},
		{func(x *api.Tensor) { x.Elems = nil }, api.ErrShape},
		{func(x *api.Tensor) { x.Elems[0] = api.Rat{} }, api.ErrRat},
		{func(x *api.Tensor) { x.Elems[2] = api.Rat{Num: api.Nat{2}, Den: api.Nat{4}} }, api.ErrRat},
		{func(x *api.Tensor) { x.Elems[1] = api.Rat{Neg: true, Den: one} }, api.ErrRat},
		{func(x *api.Tensor) { x.Elems[1] = api.Rat{Den: one} }, api.OK},
		{func(x *api.Tensor) { x.Elems[1] = api.Rat{Neg: true, Num: limbs(32), Den: one} }, api.OK},
		{func(x *api.Tensor) { x.Elems[1] = api.Rat{Num: limbs(33), Den: one} }, api.ErrLimit},
		{func(x *api.Tensor) { x.Elems[2] = api.Rat{Num: limbs(33), Den: one} }, api.ErrLimit},
		{func(x *api.Tensor) { x.Elems[0] = api.Rat{Num: one, Den: limbs(32)} }, api.OK},
		{func(x *api.Tensor) { x.Elems[0] = api.Rat{Neg: true, Num: one, Den: limbs(33)} }, api.ErrLimit},
		{func(x *api.Tensor) { x.Elems[0] = api.Rat{Num: limbs(31), Den: limbs(32)} }, api.OK},
		{func(x *api.Tensor) { x.Elems[0] = api.Rat{Num: limbs(32), Den: limbs(33)} }, api.ErrLimit},
		{func(x *api.Tensor) { x.Elems[0] = api.Rat{Num: limbs(400), Den: one} }, api.ErrLimit},
		{func(x *api.Tensor) { x.Elems[0] = api.Rat{Num: append(limbs(32), 0), Den: one} }, api.ErrRat},
		{func(x *api.Tensor) { x.Elems[0] = api.Rat{Num: limbs(33), Den: limbs(33)} }, api.ErrRat},
		{func(x *api.Tensor) {
			x.Elems[0], x.Elems[2] = api.Rat{Num: limbs(33), Den: one}, api.Rat{}
		}, api.ErrRat},
	} {
		checkGraph(t, strconv.Itoa(i), weighted(c.change), c.want)
	}
}

func TestNumberOfNodes(t *testing.T) {
	for _, version := range []string{"version 1", "version 2", "version 3"} {
		checkText(t, version+"; input x"+copies("; node neg 0", api.MaxNodes), api.OK)
		checkText(t, version+"; input x"+copies("; node neg 0", api.MaxNodes+1), api.ErrLimit)
		for _, own := range []string{"; input ~0", "; input x; input ~63", "; input ~1; input x"} {
			checkText(t, version+own+copies("; node neg 0", api.MaxNodes+1), api.OK)
		}
	}
	own := graphOf("version 3; input x; input ~0; node neg 0; out 0")
	own.Body.Nodes = slices.Repeat(own.Body.Nodes, api.MaxVJP)
	own.Body.Outputs = []int{1 + api.MaxVJP}
	checkGraph(t, "MaxVJP nodes", own, api.OK)
	own.Body.Nodes = append(own.Body.Nodes, nodeOf("neg 0"))
	checkGraph(t, "one node more", own, api.ErrLimit)
	own.Body.Nodes[0].Op = 0
	checkGraph(t, "one node more, the first one of which has no operation", own, api.ErrLimit)
}

func TestNodes(t *testing.T) {
	for text, e := range map[string]api.Errno{
		"node square 0": api.ErrOp, "node gemm 0 1 2": api.ErrOp, "node mean 0, 0": api.ErrOp,
		"node add 0": api.ErrArity, "node add": api.ErrArity, "node neg 0 0": api.ErrArity, "node concat , 0": api.ErrArity, "node concat 0 0 0 0 0 0 0 0 0, 0": api.ErrArity,
		"node neg 0, 1": api.ErrAttr, "node pow 0": api.ErrAttr, "node pow 0, 17": api.ErrAttr, "node scale 0, 2 4": api.ErrAttr, "node sum 0, 1 0": api.ErrAttr,
		"node neg 3": api.ErrRef, "node neg 4": api.ErrRef, "node neg -1": api.ErrRef, "node add 0 3": api.ErrRef, "node add 3 0": api.ErrRef, "node concat 0 0 0 0 0 0 0 9, 0": api.ErrRef, "node neg 0; node neg 4": api.ErrRef, "node neg 4; node neg 0": api.ErrRef,
		"node add 0 1": api.ErrShape, "node matmul 0 0": api.ErrShape, "node reshape 0, 7": api.ErrShape, "node sum 0, 2": api.ErrShape, "node slice 0, 0 1": api.ErrShape,
		"node pad 0, 0 600 0 0": api.ErrLimit, "node matmul 2 2": api.ErrShape, "node transpose 2, 1 0; node matmul 3 2": api.ErrLimit,
		"node neg 2; node matmul 0 1; node relu 4": api.OK,
	} {
		checkText(t, "version 3; input x 2 3; input y 3 2; weight w 1 33; "+text, e)
	}
	checkText(t, "version 1; input x; node step 0", api.ErrOp)
	checkText(t, "version 2; input x; node step 0", api.ErrOp)
	checkText(t, "version 2; input x; node square 0", api.ErrOp)
	checkText(t, "version 2; input x; node pow 0", api.ErrAttr)
	checkText(t, "version 1; node neg 0", api.ErrRef)
}

func TestOutputs(t *testing.T) {
	start := "version 3; input x 2; weight w 3; node neg 0; out "
	checkText(t, start+"0 1 2 2 1 0", api.OK)
	checkText(t, start, api.OK)
	for _, outs := range []string{"3", "-1", "0 1 2 3", "3 0", "0 1000000000000"} {
		checkText(t, start+outs, api.ErrRef)
	}
	checkText(t, "version 3; out 0", api.ErrRef)
	checkText(t, start+copies("2 ", api.MaxOuts), api.OK)
	checkText(t, start+copies("2 ", api.MaxOuts+1), api.ErrLimit)
	checkText(t, start+"3"+copies(" 2", api.MaxOuts), api.ErrLimit)
	checkText(t, "version 3; input x; input ~5; out "+copies("1 ", api.MaxOuts), api.OK)
	checkText(t, "version 3; input x; input ~5; out "+copies("1 ", api.MaxOuts+1), api.ErrLimit)
}

// Each line of the row of the VJP.
func TestStoredVJPs(t *testing.T) {
	start := "version 3; input x 2; input y 3; weight w 3; node add 1 2; out 3 0 3; vjp; "
	// In the VJP: x and y are 0 and 1, the cotangents 2, 3 and 4, w is 5, and the nodes are 6 and so on.
	for text, e := range map[string]api.Errno{
		"out 3 2": api.OK, "out 0 1": api.OK, "out 3 5": api.OK, "out 3 4": api.OK, "node add 2 4; out 3 6": api.OK, "node step 0; node scale 6, 0 1; out 7 1; node neg 2": api.OK,
		"": api.ErrVJP, "out 3": api.ErrVJP, "out 3 2 4": api.ErrVJP, "out 3 2 2 2": api.ErrVJP, "node add 2 4": api.ErrVJP,
		"out 2 3": api.ErrVJP, "out 2 2": api.ErrVJP, "out 5 5": api.ErrVJP, "out 3 3": api.ErrVJP, "out 4 4": api.ErrVJP, "node reshape 2, 1 3; out 3 6": api.ErrVJP, "node reshape 2, 3 1; out 3 6": api.ErrVJP, "node sum 2, 0; out 3 6": api.ErrVJP,
		"out 3 6": api.ErrVJP, "out -1 2": api.ErrVJP, "out 3 -1": api.ErrVJP, "node neg 2; out 3 7": api.ErrVJP,
		"node square 2; out 3 6": api.ErrVJP, "node mean 2, 0; out 3 2": api.ErrVJP, "node neg 2 2; out 3 6": api.ErrVJP, "node neg 2, 1; out 3 6": api.ErrVJP, "node pow 2; out 3 6": api.ErrVJP,
		"node neg 6; out 3 6": api.ErrVJP, "node neg 7; node neg 2; out 3 7": api.ErrVJP, "node neg -1; out 3 2": api.ErrVJP, "node add 2 3; out 3 2": api.ErrVJP, "node pad 2, 0 2000; out 3 2": api.ErrVJP,
		"out " + copies("3 ", 65): api.ErrVJP,
	} {
		checkText(t, start+text, e)
	}
	for _, version := range []string{"version 1", "version 2"} {
		checkText(t, version+"; input x 2; node neg 0; out 1; vjp; node neg 1; out 2", api.ErrVJP)
		checkText(t, version+"; vjp", api.ErrVJP)
	}
	checkText(t, "version 3; input x 2; node neg 0; out 1; vjp; node neg 1; out 2", api.OK)
}

// Without HasVJP there is no VJP, not even a part of one.
func TestPartsOfAVJP(t *testing.T) {
	for version := 1; version <= 3; version++ {
		for _, text := range []string{"input x; out 0; vjp; out 1", "input x; out 0; vjp; node neg 0; out 1", "vjp; node neg 0", "input x; input ~0; vjp; out 0", "vjp; out 0"} {
			g := graphOf("version 3; " + text)
			g.Version, g.HasVJP = version, false
			checkGraph(t, text, g, api.ErrVJP)
			g.VJP = api.Body{Nodes: []api.Node{}, Outputs: []int{}}
			checkGraph(t, text, g, api.OK)
		}
	}
}

// A VJP's own graph has no VJP, even if the names of the cotangents differ.
func TestOwnGraphsHaveNoVJP(t *testing.T) {
	for _, text := range []string{"input ~0; out 0; vjp; out 1", "input ~5; out 0; vjp; out 1", "input ~5; vjp; out 0", "input x; input ~63; vjp; out 0 1", "input ~1; input x; out 1; vjp; out 2 2"} {
		checkText(t, "version 3; "+text, api.ErrVJP)
		checkText(t, "version 3; "+strings.Replace(text, "input ~", "input z", 1), api.OK)
	}
}

func TestNumberOfNodesOfAVJP(t *testing.T) {
	// Without outputs there is no cotangent, and so the limit is that of graphs.
	for start, most := range map[string]int{"version 3; input x; out 0; vjp; out 1": api.MaxVJP, "version 3; input x; vjp; out 0": api.MaxNodes, "version 3; weight w; out 0; vjp": api.MaxVJP, "version 3; weight w; vjp": api.MaxNodes} {
		g := graphOf(start)
		g.VJP.Nodes = slices.Repeat([]api.Node{nodeOf("neg 0")}, most)
		checkGraph(t, start, g, api.OK)
		v, e := graph.VJP(g)
		if e != api.OK || len(v.Body.Nodes) != most {
			t.Errorf("%s: %d nodes, error %d", start, len(v.Body.Nodes), e)
		}
		checkGraph(t, start, v, api.OK)
		g.VJP.Nodes = append(g.VJP.Nodes, nodeOf("neg 0"))
		checkGraph(t, start, g, api.ErrVJP)
	}
}

func TestLargestVJP(t *testing.T) {
	g := api.Graph{Version: 3, Inputs: named("x", 64), Weights: weights(64), HasVJP: true}
	for i := range 64 {
		g.Body.Outputs = append(g.Body.Outputs, 63-i)
		g.VJP.Outputs = append(g.VJP.Outputs, 64+63-i)
	}
	checkGraph(t, "64 inputs and outputs", g, api.OK)
	v, e := graph.VJP(g)
	if e != api.OK || len(v.Inputs) != 128 || v.Inputs[127].Name != "~63" {
		t.Errorf("VJP: %s, error %d", brief(v), e)
	}
	checkGraph(t, "128 inputs", v, api.OK)
	g.VJP.Outputs = append(g.VJP.Outputs, 0)
	checkGraph(t, "65 outputs", g, api.ErrVJP)
}

// P13.2

func TestRefs(t *testing.T) {
	for _, r := range valid() {
		if n := graph.Refs(graphOf(r.text)); n != len(lists(r.shapes)) {
			t.Errorf("Refs of %s: %d", r.text, n)
		}
	}
	for text, want := range map[string]int{"version 9": 0, "version 0; input X 0; input X; weight X; node neg 9; node neg 9; node neg 9; out 1 2; vjp; node neg 0; out 5": 6} {
		if n := graph.Refs(graphOf(text)); n != want {
			t.Errorf("Refs of %s: %d, want %d", text, n, want)
		}
	}
	if n := graph.Refs(api.Graph{}); n != 0 {
		t.Errorf("Refs of the zero graph: %d", n)
	}
}

func checkFind(t *testing.T, g api.Graph, name string, want int, wantE api.Errno) {
	t.Helper()
	if i, e := graph.Find(g, name); i != want || e != wantE {
		t.Errorf("Find of %q: %d, error %d, want %d, %d: %s", name, i, e, want, wantE, brief(g))
	}
}

func TestFind(t *testing.T) {
	g := graphOf("version 3; input x 2; input ~0 3; input y; weight w 3; weight v; node neg 0; out 5")
	for i, name := range []string{"x", "~0", "y", "w", "v"} {
		checkFind(t, g, name, i, api.OK)
	}
	for _, name := range []string{"", "z", "X", "x ", " x", "xx", "~", "~1", "~00", "0", "%0", "\xff", "x\x00", "neg"} {
		checkFind(t, g, name, 0, api.ErrNone)
	}
	checkFind(t, api.Graph{}, "", 0, api.ErrNone)
	checkFind(t, api.Graph{Version: 3}, "x", 0, api.ErrNone)
	checkFind(t, graphOf("version 3; input x; out 0; vjp; out 1"), "~0", 0, api.ErrNone)
}

func TestFindWhereGraphsAreNotValid(t *testing.T) {
	g := graphOf("version 0; input x 0; input y; input x; input Z; weight y; weight w 0; weight w; weight x; node neg 7; vjp; out 5")
	for name, want := range map[string]int{"x": 0, "y": 1, "Z": 3, "w": 5} {
		checkFind(t, g, name, want, api.OK)
	}
	checkFind(t, g, "", 0, api.ErrNone)
	g.Inputs[2].Name, g.Weights[3].Name, g.Weights[1].Name = "", "", "a\xff"
	checkFind(t, g, "", 2, api.OK)
	checkFind(t, g, "a\xff", 5, api.OK)
	checkFind(t, g, "a\xfe", 0, api.ErrNone)
	checkFind(t, g, "a\ufffd", 0, api.ErrNone)
}

func TestName(t *testing.T) {
	for name, want := range names() {
		if graph.Name(name) != want {
			t.Errorf("Name of %q: %t", name, !want)
		}
	}
	for name := range cotangents() {
		if graph.Name(name) {
			t.Errorf("Name of %q: true", name)
		}
	}
}

// P13.4

func TestForward(t *testing.T) {
	for _, r := range valid() {
		text, _, _ := strings.Cut(r.text, "; vjp")
		if got := tell(graph.Forward(graphOf(r.text))); got != tell(graphOf(text)) {
			t.Errorf("Forward of %s: %s", r.text, got)
		}
	}
	g := graphOf("version 7; input X 0; input X; weight ~0 -1; node square 9 9, 8; out 77; vjp; node neg 4; out 2")
	want := graphOf("version 7; input X 0; input X; weight ~0 -1; node square 9 9, 8; out 77")
	for _, has := range []bool{true, false} {
		g.HasVJP = has
		if got := tell(graph.Forward(g)); got != tell(want) {
			t.Errorf("Forward of a graph that is not valid: %s", got)
		}
	}
	if got := graph.Forward(api.Graph{}); tell(got) != tell(api.Graph{}) {
		t.Errorf("Forward of the zero graph: %s", tell(got))
	}
}

func TestVJP(t *testing.T) {
	for _, c := range []struct{ text, own string }{
		{"version 3; vjp", "version 3"},
		{"version 3; input x; out 0; vjp; out 1", "version 3; input x; input ~0; out 1"},
		{"version 3; input x 2; node mul 0 0; out 1; vjp; node mul 0 1; node add 2 2; out 3", "version 3; input x 2; input ~0 2; node mul 0 1; node add 2 2; out 3"},
		{"version 3; input x 2 3; weight w 3 1; node matmul 0 1; out 2; vjp; node transpose 2, 1 0; node matmul 1 3; out 4", "version 3; input x 2 3; input ~0 2 1; weight w 3 1; node transpose 2, 1 0; node matmul 1 3; out 4"},
		{"version 3; input x 2; input y 3; weight w 4; weight v 1 5; node sum 3, 0; out 1 2 4 1 0; vjp; node sub 2 5; out 6 9", "version 3; input x 2; input y 3; input ~0 3; input ~1 4; input ~2 5; input ~3 3; input ~4 2; weight w 4; weight v 1 5; node sub 2 5; out 6 9"},
		{"version 3; input x 2; weight w 3; vjp; node scale 0, 0 1; out 2", "version 3; input x 2; weight w 3; node scale 0, 0 1; out 2"},
		{"version 3; weight w 3; out 0; vjp", "version 3; input ~0 3; weight w 3"},
	} {
		g, e := graph.VJP(graphOf(c.text))
		if e != api.OK || tell(g) != tell(graphOf(c.own)) {
			t.Errorf("VJP of %s: %s, error %d, want %s", c.text, tell(g), e, tell(graphOf(c.own)))
		}
	}
}

func checkNoVJP(t *testing.T, g api.Graph, want api.Errno) {
	t.Helper()
	if v, e := graph.VJP(g); e != want || tell(v) != tell(api.Graph{}) {
		t.Errorf("VJP of %s: %s, error %d, want %d", brief(g), tell(v), e, want)
	}
}

func TestNoVJP(t *testing.T) {
	for _, r := range valid() {
		g := graphOf(r.text)
		if !g.HasVJP {
			checkNoVJP(t, g, api.ErrNone)
		}
		g.HasVJP, g.VJP = false, api.Body{Nodes: []api.Node{}, Outputs: []int{}}
		checkNoVJP(t, g, api.ErrNone)
	}
	for text, e := range map[string]api.Errno{
		"version 4; vjp": api.ErrVersion, "version 4": api.ErrVersion, "version 3; input X": api.ErrName, "version 3; input X; out 0; vjp; out 1": api.ErrName, "version 3; input x 0": api.ErrShape,
		"version 3; node neg 0": api.ErrRef, "version 3; out 0; vjp": api.ErrRef, "version 3; input x; vjp": api.ErrVJP, "version 2; vjp": api.ErrVJP, "version 3; input x; input ~0; vjp; out 0 1": api.ErrVJP,
	} {
		checkNoVJP(t, graphOf(text), e)
	}
	g := graphOf("version 3; input x; out 0; vjp; out 1")
	g.HasVJP = false
	checkNoVJP(t, g, api.ErrVJP)
}
