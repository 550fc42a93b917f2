package graph_test

import (
	"math/rand/v2"
	"reflect"
	"regexp"
	"slices"
	"strconv"
	"testing"

	"fluxion/api"
	"fluxion/graph"
	"fluxion/infer"
	"fluxion/op"
	"fluxion/shape"
	"fluxion/tensor"
)

// random is the same in every run.
func random() *rand.Rand { return rand.New(rand.NewPCG(13, 13)) }

var (
	plainName     = regexp.MustCompile(`\A[a-z][a-z0-9_]{0,31}\z`)
	cotangentName = regexp.MustCompile(`\A~([0-9]|[1-5][0-9]|6[0-3])\z`)
)

// judge is the chapter's table, read a second time.
func judge(g api.Graph) ([]api.Shape, api.Errno) {
	if g.Version != 1 && g.Version != 2 && g.Version != 3 {
		return nil, api.ErrVersion
	}
	ports, nodes := 64, 1024
	isOwn := slices.ContainsFunc(g.Inputs, func(p api.Port) bool { return cotangentName.MatchString(p.Name) })
	if isOwn {
		ports, nodes = 128, 32768
	}
	if len(g.Inputs) > ports || len(g.Weights) > 64 {
		return nil, api.ErrLimit
	}
	l, e := judgeHead(g)
	if e != api.OK {
		return nil, e
	}
	if len(g.Body.Nodes) > nodes {
		return nil, api.ErrLimit
	}
	if l, e = judgeBody(g, l); e != api.OK {
		return nil, e
	}
	if !isVJPRight(g, isOwn, l) {
		return nil, api.ErrVJP
	}
	return l, api.OK
}

func judgeHead(g api.Graph) ([]api.Shape, api.Errno) {
	var l []api.Shape
	var before []string
	for _, p := range g.Inputs {
		if slices.Contains(before, p.Name) || !plainName.MatchString(p.Name) && !cotangentName.MatchString(p.Name) {
			return nil, api.ErrName
		}
		if e := shape.May(p.Shape); e != api.OK {
			return nil, e
		}
		before, l = append(before, p.Name), append(l, p.Shape)
	}
	for _, w := range g.Weights {
		if slices.Contains(before, w.Name) || !plainName.MatchString(w.Name) {
			return nil, api.ErrName
		}
		if e := tensor.May(w.Value); e != api.OK {
			return nil, e
		}
		for _, x := range w.Value.Elems {
			if len(x.Num) > 32 || len(x.Den) > 32 {
				return nil, api.ErrLimit
			}
		}
		before, l = append(before, w.Name), append(l, w.Value.Shape)
	}
	return l, api.OK
}

func judgeBody(g api.Graph, l []api.Shape) ([]api.Shape, api.Errno) {
	for _, n := range g.Body.Nodes {
		if e := op.Check(g.Version, n); e != api.OK {
			return nil, e
		}
		var in []api.Shape
		for _, a := range n.Args {
			if a < 0 || a >= len(l) {
				return nil, api.ErrRef
			}
			in = append(in, l[a])
		}
		s, e := infer.Shape(g.Version, n, in...)
		if e != api.OK {
			return nil, e
		}
		l = append(l, s)
	}
	if len(g.Body.Outputs) > 64 {
		return nil, api.ErrLimit
	}
	for _, o := range g.Body.Outputs {
		if o < 0 || o >= len(l) {
			return nil, api.ErrRef
		}
	}
	return l, api.OK
}

// ownOf is the VJP's own graph; l are the shapes of the references.
func ownOf(g api.Graph, l []api.Shape) api.Graph {
	own := api.Graph{Version: 3, Inputs: slices.Clone(g.Inputs), Weights: g.Weights, Body: g.VJP}
	for k, o := range g.Body.Outputs {
		own.Inputs = append(own.Inputs, api.Port{Name: "~" + strconv.Itoa(k), Shape: l[o]})
	}
	return own
}

func isVJPRight(g api.Graph, isOwn bool, l []api.Shape) bool {
	if !g.HasVJP {
		return len(g.VJP.Nodes)+len(g.VJP.Outputs) == 0
	}
	if isOwn || g.Version != 3 {
		return false
	}
	m, e := judge(ownOf(g, l))
	if e != api.OK || len(g.VJP.Outputs) != len(g.Inputs) {
		return false
	}
	for i, o := range g.VJP.Outputs {
		if !slices.Equal(m[o], g.Inputs[i].Shape) {
			return false
		}
	}
	return true
}

func pick[T any](r *rand.Rand, l ...T) T { return l[r.IntN(len(l))] }

func anyShape(r *rand.Rand) api.Shape {
	return slices.Clone(pick(r, nil, api.Shape{2}, api.Shape{3}, api.Shape{2, 3}, api.Shape{3, 2}, api.Shape{2, 2}, api.Shape{1, 2, 3}))
}

func anyAttrs(r *rand.Rand) []int {
	return slices.Clone(pick(r, nil, nil, nil, nil, []int{0}, []int{1}, []int{2}, []int{3}, []int{0, 1}, []int{1, 0}, []int{1, 2}, []int{2, 3}, []int{3, 2}, []int{0, 1, 0, 1}, []int{0, 2, 1, 3}, []int{600, 600}))
}

// grow adds up to so many nodes that are valid behind references of these shapes.
func grow(r *rand.Rand, version, tries int, b *api.Body, l []api.Shape) []api.Shape {
	for range tries {
		n := api.Node{Op: api.OpAdd + api.Op(r.IntN(int(api.OpMean))), Attrs: anyAttrs(r)}
		low, high := op.Arity(n.Op)
		var in []api.Shape
		for range low + r.IntN(high-low+1) {
			if len(l) > 0 {
				n.Args = append(n.Args, r.IntN(len(l)))
				in = append(in, l[n.Args[len(n.Args)-1]])
			}
		}
		if s, e := infer.Shape(version, n, in...); e == api.OK {
			b.Nodes, l = append(b.Nodes, n), append(l, s)
		}
	}
	return l
}

// anyGraph returns a valid graph.
func anyGraph(r *rand.Rand) api.Graph {
	g := api.Graph{Version: 1 + r.IntN(3)}
	for i := range r.IntN(4) {
		g.Inputs = append(g.Inputs, api.Port{Name: pick(r, "x", "y", "~", "z") + strconv.Itoa(i), Shape: anyShape(r)})
	}
	for i := range r.IntN(3) {
		g.Weights = append(g.Weights, api.Weight{Name: pick(r, "v", "w") + strconv.Itoa(i), Value: counted(anyShape(r))})
	}
	l, _ := judgeHead(g)
	l = grow(r, g.Version, 40, &g.Body, l)
	for range r.IntN(4) {
		if len(l) > 0 {
			g.Body.Outputs = append(g.Body.Outputs, r.IntN(len(l)))
		}
	}
	if g.Version == 3 && r.IntN(3) > 0 && !slices.ContainsFunc(g.Inputs, func(p api.Port) bool { return p.Name[0] == '~' }) {
		anyVJP(r, &g, l)
	}
	return g
}

// anyVJP adds what might be a VJP, as far as its shapes are looked at.
func anyVJP(r *rand.Rand, g *api.Graph, l []api.Shape) {
	m, _ := judgeHead(ownOf(*g, l))
	m = grow(r, 3, 30, &g.VJP, m)
	g.HasVJP = true
	for _, p := range g.Inputs {
		var right []int
		for i, s := range m {
			if slices.Equal(s, p.Shape) {
				right = append(right, i)
			}
		}
		g.VJP.Outputs = append(g.VJP.Outputs, pick(r, right...))
	}
}

// disturb changes something in a graph, which is valid after that or not.
func disturb(r *rand.Rand, g *api.Graph) {
	var parts []reflect.Value
	each(reflect.ValueOf(g).Elem(), func(part reflect.Value) {
		if part.Kind() != reflect.Struct {
			parts = append(parts, part)
		}
	})
	part := pick(r, parts...)
	switch part.Kind() {
	case reflect.Int:
		part.SetInt(pick(r, part.Int()-1, part.Int()+1, int64(r.IntN(8)), -1, 1030))
	case reflect.Uint32:
		part.SetUint(uint64(r.IntN(4)))
	case reflect.String:
		part.SetString(pick(r, "x", "x0", "w1", "~0", "~2", "~63", "~64", "~01", "", "X", "a_b"))
	case reflect.Bool:
		part.SetBool(!part.Bool())
	case reflect.Slice:
		disturbList(r, part)
	}
}

func disturbList(r *rand.Rand, l reflect.Value) {
	n := l.Len()
	if n == 0 {
		lengthen(l)
		return
	}
	switch r.IntN(5) {
	case 0:
		lengthen(l)
	case 1:
		l.Set(l.Slice(0, n-1))
	case 2:
		l.Set(l.Slice(1, n))
	case 3:
		l.Set(reflect.Append(l, l.Index(r.IntN(n))))
	case 4:
		for l.Len() < 70 {
			l.Set(reflect.AppendSlice(l, l))
		}
	}
}

func checkJudged(t *testing.T, g api.Graph) api.Errno {
	t.Helper()
	want, wantE := judge(g)
	checkGraph(t, "a graph of chance", g, wantE)
	if l, e := graph.Shapes(g); e != wantE || !slices.EqualFunc(l, want, shape.Same) {
		t.Errorf("the shapes of %s: %v, error %d, want %v, %d", tell(g), l, e, want, wantE)
	}
	v, e := graph.VJP(g)
	switch {
	case wantE != api.OK || !g.HasVJP:
		checkNoVJP(t, g, missing(wantE))
	case e != api.OK || tell(v) != tell(ownOf(g, want)):
		t.Errorf("VJP of %s: %s, error %d", tell(g), tell(v), e)
	}
	return wantE
}

// missing is the error of VJP for a graph without one, if that has no other error.
func missing(e api.Errno) api.Errno {
	if e == api.OK {
		return api.ErrNone
	}
	return e
}

// P13.1 and P13.4, for graphs of chance

func TestChecksAgree(t *testing.T) {
	r := random()
	seen := map[api.Errno]int{}
	for range 2500 {
		g := anyGraph(r)
		if e := checkJudged(t, g); e != api.OK {
			t.Fatalf("error %d: %s", e, tell(g))
		}
		for range 5 {
			h := graph.Copy(g)
			for range 1 + r.IntN(3) {
				disturb(r, &h)
			}
			seen[checkJudged(t, h)]++
		}
	}
	for _, e := range []api.Errno{api.OK, api.ErrVersion, api.ErrLimit, api.ErrName, api.ErrShape, api.ErrRat, api.ErrOp, api.ErrArity, api.ErrAttr, api.ErrRef, api.ErrVJP} {
		if seen[e] < 20 {
			t.Errorf("error %d: seen %d times", e, seen[e])
		}
	}
}

func TestExamplesAgree(t *testing.T) {
	for _, g := range given() {
		checkJudged(t, g)
	}
}

// P13.5

// validGraphs are those of the tables and some of chance.
func validGraphs() []api.Graph {
	all := []api.Graph{sound(), full()}
	for _, r := range valid() {
		all = append(all, graphOf(r.text))
	}
	r := random()
	for range 300 {
		all = append(all, anyGraph(r))
	}
	return all
}

func TestForwardAndVJPAreValid(t *testing.T) {
	stored := 0
	for _, g := range validGraphs() {
		f := graph.Forward(g)
		checkGraph(t, "Forward", f, api.OK)
		if f.HasVJP || len(f.VJP.Nodes) != 0 || len(f.VJP.Outputs) != 0 || !graph.Same(graph.Forward(f), f) || graph.Same(f, g) == g.HasVJP {
			t.Errorf("Forward of %s: %s", tell(g), tell(f))
		}
		v, e := graph.VJP(g)
		if e == api.OK {
			stored++
			checkGraph(t, "VJP", v, api.OK)
			checkNoVJP(t, v, api.ErrNone)
			checkOutsOfVJP(t, g, v)
		}
	}
	if stored < 50 {
		t.Errorf("%d graphs with a VJP", stored)
	}
}

// checkOutsOfVJP holds the outputs of a VJP's own graph against the inputs of the graph.
func checkOutsOfVJP(t *testing.T, g, v api.Graph) {
	t.Helper()
	l, _ := graph.Shapes(v)
	if len(v.Body.Outputs) != len(g.Inputs) || len(v.Inputs) != len(g.Inputs)+len(g.Body.Outputs) {
		t.Errorf("VJP of %s: %s", tell(g), tell(v))
		return
	}
	for i, o := range v.Body.Outputs {
		if !slices.Equal(l[o], g.Inputs[i].Shape) {
			t.Errorf("VJP of %s: output %d has the shape %v", tell(g), i, l[o])
		}
	}
}

func TestArgumentsPrecede(t *testing.T) {
	for _, g := range validGraphs() {
		first := len(g.Inputs) + len(g.Weights)
		for i, n := range g.Body.Nodes {
			if slices.ContainsFunc(n.Args, func(a int) bool { return a < 0 || a >= first+i }) {
				t.Errorf("node %d of %s", i, tell(g))
			}
			// A node that follows, or the node itself, is no argument.
			for j := range n.Args {
				for _, ref := range []int{-1, first + i, first + i + 1, first + len(g.Body.Nodes)} {
					h := graph.Copy(g)
					h.Body.Nodes[i].Args[j] = ref
					checkGraph(t, "a later argument", h, api.ErrRef)
				}
			}
		}
	}
}

func TestFirstNodesFormAGraph(t *testing.T) {
	r := random()
	for _, g := range validGraphs() {
		all, _ := graph.Shapes(g)
		for n := range len(g.Body.Nodes) + 1 {
			f := graph.Forward(g)
			f.Body = api.Body{Nodes: f.Body.Nodes[:n]}
			refs := graph.Refs(f)
			for range r.IntN(5) {
				if refs > 0 {
					f.Body.Outputs = append(f.Body.Outputs, r.IntN(refs))
				}
			}
			checkGraph(t, "the first nodes", f, api.OK)
			l, _ := graph.Shapes(f)
			if !slices.EqualFunc(l, all[:refs], shape.Same) {
				t.Errorf("the shapes of the first %d nodes of %s: %v", n, tell(g), l)
			}
			f.Body.Outputs = append(f.Body.Outputs, refs)
			checkGraph(t, "an output that is left out", f, api.ErrRef)
		}
	}
}

// What an input or a weight is called, and what numbers a weight has, changes no shape.
func TestNamesAndNumbersChangeNoShape(t *testing.T) {
	for _, g := range validGraphs() {
		want, _ := graph.Shapes(g)
		h := graph.Copy(g)
		for i := range h.Weights {
			h.Weights[i].Name = "weight_" + strconv.Itoa(i)
			for j := range h.Weights[i].Value.Elems {
				h.Weights[i].Value.Elems[j] = api.Rat{Neg: true, Num: limbs(32), Den: limbs(1)}
			}
		}
		for i := range h.Inputs {
			if graph.Name(h.Inputs[i].Name) {
				h.Inputs[i].Name = "input_" + strconv.Itoa(i)
			}
		}
		if l, e := graph.Shapes(h); e != api.OK || !slices.EqualFunc(l, want, shape.Same) {
			t.Errorf("the shapes of %s: %v, error %d", brief(h), l, e)
		}
	}
}

func TestFindFindsAll(t *testing.T) {
	for _, g := range validGraphs() {
		for i, p := range g.Inputs {
			checkFind(t, g, p.Name, i, api.OK)
			checkFind(t, g, p.Name+"_", 0, api.ErrNone)
		}
		for i, w := range g.Weights {
			checkFind(t, g, w.Name, len(g.Inputs)+i, api.OK)
		}
		if l, e := graph.Shapes(g); e != api.OK || len(l) != graph.Refs(g) {
			t.Errorf("%d shapes, error %d, of %d references", len(l), e, graph.Refs(g))
		}
	}
}
