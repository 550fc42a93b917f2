package graph

import (
	"slices"

	"fluxion/api"
	"fluxion/infer"
	"fluxion/op"
	"fluxion/shape"
	"fluxion/tensor"
)

// check panics with the error of a graph that is not valid.
func check(g api.Graph) []api.Shape {
	demand(g.Version >= 1 && g.Version <= 3, api.ErrVersion)
	checkHead(g)
	refs, outs := checkBody(g)
	checkVJP(g, outs)
	return refs
}

func checkHead(g api.Graph) {
	ports := api.MaxPorts
	if isOwn(g) {
		ports += api.MaxOuts
	}
	demand(len(g.Inputs) <= ports && len(g.Weights) <= api.MaxPorts, api.ErrLimit)
	taken := map[string]bool{}
	take := func(name string, mayBe bool) {
		demand(mayBe && !taken[name], api.ErrName)
		taken[name] = true
	}
	for _, p := range g.Inputs {
		take(p.Name, Name(p.Name) || isCotangent(p.Name))
		demandOK(shape.May(p.Shape))
	}
	for _, w := range g.Weights {
		take(w.Name, Name(w.Name))
		demandOK(tensor.May(w.Value))
		demand(!slices.ContainsFunc(w.Value.Elems, isLong), api.ErrLimit)
	}
}

func isLong(x api.Rat) bool { return max(len(x.Num), len(x.Den)) > api.MaxLimbs }

// checkBody is given a graph whose inputs and weights are valid. It returns the shapes of the
// references and those of the outputs.
func checkBody(g api.Graph) (refs, outs []api.Shape) {
	found := headShapes(g)
	shapeOf := func(ref int) api.Shape {
		demand(ref >= 0 && ref < len(found), api.ErrRef)
		return found[ref]
	}
	nodes := api.MaxNodes
	if isOwn(g) {
		nodes = api.MaxVJP
	}
	demand(len(g.Body.Nodes) <= nodes, api.ErrLimit)
	for _, n := range g.Body.Nodes {
		demandOK(op.Check(g.Version, n))
		s, e := infer.Shape(g.Version, n, each(n.Args, shapeOf)...)
		demandOK(e)
		found = append(found, s)
	}
	demand(len(g.Body.Outputs) <= api.MaxOuts, api.ErrLimit)
	return found, each(g.Body.Outputs, shapeOf)
}

// headShapes copies, because Shapes hands out what it returns.
func headShapes(g api.Graph) []api.Shape {
	return slices.Concat(
		each(g.Inputs, func(p api.Port) api.Shape { return slices.Clone(p.Shape) }),
		each(g.Weights, func(w api.Weight) api.Shape { return slices.Clone(w.Value.Shape) }))
}

// checkVJP is given a graph that is valid without its VJP, and the shapes of its outputs.
func checkVJP(g api.Graph, outs []api.Shape) {
	if !g.HasVJP {
		demand(len(g.VJP.Nodes) == 0 && len(g.VJP.Outputs) == 0, api.ErrVJP)
		return
	}
	demand(g.Version == 3 && !isOwn(g), api.ErrVJP)
	// Its inputs and weights are those of g and cotangents with shapes of references, so they are
	// valid; to examine long numbers a second time would take long.
	var gradients []api.Shape
	e := caught(func() { _, gradients = checkBody(ownGraph(g, outs)) })
	demand(e == api.OK, api.ErrVJP)
	demand(slices.EqualFunc(g.Inputs, gradients, func(p api.Port, s api.Shape) bool { return shape.Same(p.Shape, s) }), api.ErrVJP)
}
