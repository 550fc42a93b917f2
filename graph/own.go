package graph

import (
	"slices"
	"strconv"
	"strings"

	"fluxion/api"
)

// ownGraph shares memory with g and outs, the shapes of the outputs of g.
func ownGraph(g api.Graph, outs []api.Shape) api.Graph {
	var cotangents []api.Port
	for k, s := range outs {
		cotangents = append(cotangents, api.Port{Name: "~" + strconv.Itoa(k), Shape: s})
	}
	return api.Graph{Version: 3, Inputs: slices.Concat(g.Inputs, cotangents), Weights: g.Weights, Body: g.VJP}
}

// isOwn is false for the graph of the VJP of a graph without outputs: it has no cotangent.
func isOwn(g api.Graph) bool {
	return slices.ContainsFunc(g.Inputs, func(p api.Port) bool { return isCotangent(p.Name) })
}

func isCotangent(name string) bool {
	digits, isMarked := strings.CutPrefix(name, "~")
	k, e := strconv.Atoi(digits)
	return isMarked && e == nil && k >= 0 && k < api.MaxOuts && strconv.Itoa(k) == digits
}
