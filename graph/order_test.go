package graph_test

import (
	"fmt"
	"slices"
	"strconv"
	"testing"

	"fluxion/api"
	"fluxion/graph"
)

// fault breaks a graph in one way, and no way undoes another one.
type fault struct {
	want api.Errno
	to   func(g *api.Graph)
}

// sound is a valid graph. The nodes are small matrix products with places for every fault.
func sound() api.Graph {
	return graphOf("version 3; input x 2 3; input y 3 2; weight v 2 2; weight w 3 3; node matmul 0 1; node pad 1, 0 0 0 0; node matmul 0 1; out 4 5; vjp; node scale 0, 0 1; out 6 1")
}

func faultsOfShape(at func(g *api.Graph) *api.Shape) []fault {
	return []fault{
		{api.ErrLimit, func(g *api.Graph) { *at(g) = append(*at(g), 1, 1, 1) }},
		{api.ErrShape, func(g *api.Graph) { (*at(g))[0] = 0 }},
		{api.ErrLimit, func(g *api.Graph) { (*at(g))[1] = 2000 }},
	}
}

func faultsOfInput(i int) []fault {
	return slices.Concat(
		[]fault{{api.ErrName, func(g *api.Graph) { g.Inputs[i].Name = "x-" + strconv.Itoa(i) }}},
		faultsOfShape(func(g *api.Graph) *api.Shape { return &g.Inputs[i].Shape }))
}

func faultsOfWeight(i int) []fault {
	return slices.Concat(
		[]fault{{api.ErrName, func(g *api.Graph) { g.Weights[i].Name = "~" + strconv.Itoa(i) }}},
		faultsOfShape(func(g *api.Graph) *api.Shape { return &g.Weights[i].Value.Shape }),
		[]fault{
			{api.ErrShape, func(g *api.Graph) {
				g.Weights[i].Value.Elems = append(g.Weights[i].Value.Elems, api.Rat{Den: api.Nat{1}})
			}},
			{api.ErrRat, func(g *api.Graph) { g.Weights[i].Value.Elems[3] = api.Rat{} }},
			{api.ErrLimit, func(g *api.Graph) { g.Weights[i].Value.Elems[0].Num = limbs(33) }},
		})
}

// faultsOfProduct are those of a matrix product.
func faultsOfProduct(i int) []fault {
	at := func(g *api.Graph) *api.Node { return &g.Body.Nodes[i] }
	return []fault{
		{api.ErrOp, func(g *api.Graph) { at(g).Op = api.OpGemm }},
		{api.ErrArity, func(g *api.Graph) { at(g).Args = append(at(g).Args, 0, 0) }},
		{api.ErrAttr, func(g *api.Graph) { at(g).Attrs = append(at(g).Attrs, 1) }},
		{api.ErrRef, func(g *api.Graph) { at(g).Args[0] = 4 + i }},
		{api.ErrShape, func(g *api.Graph) { at(g).Args[1] = 0 }},
	}
}

// faultsOfPad are those of a pad with four attributes.
func faultsOfPad(i int) []fault {
	at := func(g *api.Graph) *api.Node { return &g.Body.Nodes[i] }
	return []fault{
		{api.ErrOp, func(g *api.Graph) { at(g).Op = 0 }},
		{api.ErrArity, func(g *api.Graph) { at(g).Args = append(at(g).Args, 0) }},
		{api.ErrAttr, func(g *api.Graph) { at(g).Attrs[0] = -1 }},
		{api.ErrRef, func(g *api.Graph) { at(g).Args[0] = -1 }},
		{api.ErrShape, func(g *api.Graph) { at(g).Attrs = append(at(g).Attrs, 0, 0) }},
		{api.ErrLimit, func(g *api.Graph) { at(g).Attrs[1] = 1000 }},
	}
}

// faults are in the document's order.
func faults() []fault {
	return slices.Concat(
		[]fault{
			{api.ErrVersion, func(g *api.Graph) { g.Version = 4 }},
			{api.ErrLimit, func(g *api.Graph) { g.Inputs = append(g.Inputs, named("z", 64)...) }},
			{api.ErrLimit, func(g *api.Graph) { g.Weights = append(g.Weights, weights(64)...) }},
		},
		faultsOfInput(0), faultsOfInput(1), faultsOfWeight(0), faultsOfWeight(1),
		[]fault{{api.ErrLimit, func(g *api.Graph) { g.Body.Nodes = append(g.Body.Nodes, make([]api.Node, api.MaxNodes)...) }}},
		faultsOfProduct(0), faultsOfPad(1), faultsOfProduct(2),
		[]fault{
			{api.ErrLimit, func(g *api.Graph) { g.Body.Outputs = append(g.Body.Outputs, make([]int, api.MaxOuts)...) }},
			{api.ErrRef, func(g *api.Graph) { g.Body.Outputs[0] = 7 }},
			{api.ErrVJP, func(g *api.Graph) { g.VJP.Outputs[1] = 6 }},
		})
}

func checkFaults(t *testing.T, what string, want api.Errno, broken ...func(g *api.Graph)) {
	t.Helper()
	g := sound()
	for _, to := range broken {
		to(&g)
	}
	checkGraph(t, what, g, want)
	checkNoVJP(t, g, want)
}

func TestFirstErrorIsReturned(t *testing.T) {
	checkGraph(t, "a graph without a fault", sound(), api.OK)
	all := faults()
	for i, first := range all {
		checkFaults(t, fmt.Sprint("fault ", i), first.want, first.to)
		for j, later := range all[i+1:] {
			what := fmt.Sprint("faults ", i, " and ", i+1+j)
			checkFaults(t, what, first.want, first.to, later.to)
			checkFaults(t, what, first.want, later.to, first.to)
		}
	}
}

// All faults behind one of them change nothing either.
func TestAllLaterFaults(t *testing.T) {
	all := faults()
	for i, first := range all {
		var broken []func(g *api.Graph)
		for _, later := range all[i:] {
			broken = append(broken, later.to)
		}
		checkFaults(t, fmt.Sprint("all faults from ", i), first.want, broken...)
	}
}

// In a version in which a VJP is an error, too, all others go before it.
func TestErrorsBeforeThatOfTheVersionOfAVJP(t *testing.T) {
	for _, f := range faults() {
		g := sound()
		g.Version = 2
		g.VJP = api.Body{Nodes: make([]api.Node, 3), Outputs: []int{-1, -1}}
		f.to(&g)
		// Matrix products may be gemm in this version, if they have three arguments.
		if f.want != api.ErrOp {
			checkGraph(t, "version 2", g, f.want)
		}
	}
}

// A cotangent lets more inputs and nodes be, and its errors come in the same order.
func TestOrderInOwnGraphs(t *testing.T) {
	cotangent := func(g *api.Graph) { g.Inputs[1].Name = "~3" }
	nodes := func(g *api.Graph) { g.Body.Nodes = append(g.Body.Nodes, make([]api.Node, api.MaxNodes)...) }
	checkFaults(t, "one cotangent", api.ErrVJP, cotangent)
	for i, f := range faults() {
		if f.want != api.ErrLimit && f.want != api.ErrName && f.want != api.ErrShape {
			checkFaults(t, fmt.Sprint("a cotangent and fault ", i), f.want, cotangent, f.to)
		}
	}
	checkFaults(t, "more nodes without an operation", api.ErrOp, cotangent, nodes)
	checkFaults(t, "65 inputs, and a shape", api.ErrShape, cotangent, func(g *api.Graph) {
		g.Inputs = append(g.Inputs, named("z", 63)...)
		g.Inputs[1].Shape = api.Shape{-1}
	})
}

// All references of a node are looked at before its shapes, and each node before the next one.
func TestReferencesBeforeShapes(t *testing.T) {
	start := "version 3; input x 2 3; input y 4; "
	checkText(t, start+"node concat 0 1 2, 0", api.ErrRef)
	checkText(t, start+"node concat 2 1 0, 0", api.ErrRef)
	checkText(t, start+"node concat 0 1 0, 0", api.ErrShape)
	checkText(t, start+"node matmul 1 5", api.ErrRef)
	checkText(t, start+"node add 0 1; node add 9 9", api.ErrShape)
	checkText(t, start+"node add 9 9; node add 0 1", api.ErrRef)
	checkText(t, start+"node add 0 1; node square 0", api.ErrShape)
	checkText(t, start+"node neg 0; out 9; vjp; out 9", api.ErrRef)
	checkText(t, start+"out"+copies(" 9", 65)+"; vjp; out 9", api.ErrLimit)
}

// A name that comes twice goes before what is behind it in the document's order, and after what is before.
func TestDuplicatesInOrder(t *testing.T) {
	checkText(t, "version 3; input x; input x 0", api.ErrName)
	checkText(t, "version 3; input x 0; input x", api.ErrShape)
	checkText(t, "version 3; input x; weight x 0", api.ErrName)
	checkText(t, "version 3; input x; weight a 0; weight x", api.ErrShape)
	checkText(t, "version 3; weight a; weight a 1 1 1 1 1", api.ErrName)
	checkText(t, "version 3; input x; input y 0; weight x", api.ErrShape)
	checkText(t, "version 3; weight X; input x 0", api.ErrShape)
}

func TestFindAndRefsHaveNoErrorOfCheck(t *testing.T) {
	for _, f := range faults() {
		g := sound()
		f.to(&g)
		if n := graph.Refs(g); n != len(g.Inputs)+len(g.Weights)+len(g.Body.Nodes) {
			t.Errorf("Refs of %s: %d", brief(g), n)
		}
		for i, p := range g.Inputs {
			checkFind(t, g, p.Name, i, api.OK)
		}
		for i, w := range g.Weights {
			checkFind(t, g, w.Name, len(g.Inputs)+i, api.OK)
		}
	}
}
