package graph

import (
	"slices"

	"fluxion/api"
	"fluxion/tensor"
)

func each[S, T any](l []S, do func(S) T) []T {
	r := make([]T, 0, len(l))
	for _, x := range l {
		r = append(r, do(x))
	}
	return r
}

func copyPort(p api.Port) api.Port {
	return api.Port{Name: p.Name, Shape: slices.Clone(p.Shape)}
}

func copyWeight(w api.Weight) api.Weight {
	return api.Weight{Name: w.Name, Value: tensor.Copy(w.Value)}
}

func copyNode(n api.Node) api.Node {
	return api.Node{Op: n.Op, Args: slices.Clone(n.Args), Attrs: slices.Clone(n.Attrs)}
}

func copyBody(b api.Body) api.Body {
	return api.Body{Nodes: each(b.Nodes, copyNode), Outputs: slices.Clone(b.Outputs)}
}

func isSameNode(m, n api.Node) bool {
	return m.Op == n.Op && slices.Equal(m.Args, n.Args) && slices.Equal(m.Attrs, n.Attrs)
}

func isSameBody(a, b api.Body) bool {
	return slices.EqualFunc(a.Nodes, b.Nodes, isSameNode) && slices.Equal(a.Outputs, b.Outputs)
}
