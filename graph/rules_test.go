package graph_test

import (
	"fmt"
	"math"
	"reflect"
	"slices"
	"strings"
	"testing"

	"fluxion/api"
	"fluxion/graph"
	"fluxion/rat"
)

// each visits all parts of a value: lists, and what is in them and in structs.
func each(v reflect.Value, do func(part reflect.Value)) {
	do(v)
	switch v.Kind() {
	case reflect.Struct:
		for i := range v.NumField() {
			each(v.Field(i), do)
		}
	case reflect.Slice:
		for i := range v.Len() {
			each(v.Index(i), do)
		}
	}
}

// eachList visits a list before what is in it, so that do may set it.
func eachList(v any, do func(list reflect.Value)) {
	each(reflect.ValueOf(v).Elem(), func(part reflect.Value) {
		if part.Kind() == reflect.Slice {
			do(part)
		}
	})
}

// roomy gives every list of a graph spare capacity, so that an append to an argument shows.
func roomy(g api.Graph) api.Graph {
	g = graph.Copy(g)
	eachList(&g, func(l reflect.Value) {
		n := l.Len()
		r := reflect.MakeSlice(l.Type(), n+3, n+3)
		reflect.Copy(r, l)
		l.Set(r.Slice(0, n))
	})
	return g
}

// memory tells everything in a value, with what lies behind the ends of its lists.
func memory(v any) string {
	var b strings.Builder
	each(reflect.ValueOf(v), func(part reflect.Value) {
		switch part.Kind() {
		case reflect.Slice:
			fmt.Fprint(&b, part.Len(), "[", part.Slice(0, part.Cap()), "]")
		case reflect.Struct:
		default:
			fmt.Fprintf(&b, "%q ", fmt.Sprint(part))
		}
	})
	return b.String()
}

// alter changes a number, a text or a bool.
func alter(part reflect.Value) {
	switch part.Kind() {
	case reflect.Int:
		part.SetInt(part.Int() + 1)
	case reflect.Uint32:
		part.SetUint(part.Uint() + 1)
	case reflect.String:
		part.SetString(part.String() + "'")
	case reflect.Bool:
		part.SetBool(!part.Bool())
	}
}

// spoil changes everything that a value, told by a pointer, leads to.
func spoil(v any) {
	each(reflect.ValueOf(v).Elem(), func(part reflect.Value) {
		if part.Kind() == reflect.Slice {
			part.Set(part.Slice(0, part.Cap()))
		}
		alter(part)
	})
}

// span is the memory of a list, from its begin to the end of its capacity.
type span struct{ from, to uintptr }

func spans(v any) []span {
	var all []span
	each(reflect.ValueOf(v), func(part reflect.Value) {
		if part.Kind() == reflect.Slice && part.Cap() > 0 {
			from := part.Pointer()
			all = append(all, span{from, from + uintptr(part.Cap())*part.Type().Elem().Size()})
		}
	})
	return all
}

func checkNewMemory(t *testing.T, what string, answer any, arguments ...any) {
	t.Helper()
	own := spans(answer)
	slices.SortFunc(own, func(a, b span) int { return int(a.from) - int(b.from) })
	for i, s := range own {
		if i > 0 && s.from < own[i-1].to {
			t.Errorf("%s: two lists of the answer share memory", what)
		}
	}
	for _, x := range arguments {
		for _, a := range spans(x) {
			if slices.ContainsFunc(own, func(s span) bool { return s.from < a.to && a.from < s.to }) {
				t.Errorf("%s: the answer shares memory with an argument", what)
				return
			}
		}
	}
}

// given are graphs that are valid and graphs that are not.
func given() []api.Graph {
	all := []api.Graph{{}, sound(), {HasVJP: true}, {Version: 3, VJP: api.Body{Outputs: []int{0}}}}
	for _, r := range valid() {
		all = append(all, graphOf(r.text))
	}
	for _, f := range faults() {
		g := sound()
		f.to(&g)
		if len(g.Body.Nodes) < 100 {
			all = append(all, g)
		}
	}
	return append(all, graphOf("version 7; input X 0; input X; weight ~0 -1; node square 9 9, 8; out 77; vjp; node neg 4; out 2"))
}

// call asks for all that a graph leads to.
type call struct {
	name string
	do   func(g api.Graph) any
}

func calls() []call {
	return []call{
		{"Check", func(g api.Graph) any { e := graph.Check(g); return &e }},
		{"Shapes", func(g api.Graph) any { l, _ := graph.Shapes(g); return &l }},
		{"Refs", func(g api.Graph) any { n := graph.Refs(g); return &n }},
		{"Find", func(g api.Graph) any { n, _ := graph.Find(g, "w"); return &n }},
		{"Copy", func(g api.Graph) any { c := graph.Copy(g); return &c }},
		{"Same", func(g api.Graph) any { b := graph.Same(g, g); return &b }},
		{"Forward", func(g api.Graph) any { c := graph.Forward(g); return &c }},
		{"VJP", func(g api.Graph) any { c, _ := graph.VJP(g); return &c }},
	}
}

// value is what an answer's pointer leads to.
func value(answer any) any { return reflect.ValueOf(answer).Elem().Interface() }

func TestArgumentsStay(t *testing.T) {
	for _, g := range given() {
		h := roomy(g)
		before := memory(h)
		for _, c := range calls() {
			answer := c.do(h)
			if memory(h) != before {
				t.Fatalf("%s changes %s", c.name, brief(g))
			}
			spoil(answer)
			if memory(h) != before {
				t.Fatalf("%s shares memory with %s", c.name, brief(g))
			}
		}
	}
}

func TestResultsAreNewMemory(t *testing.T) {
	for _, g := range given() {
		h := roomy(g)
		for _, c := range calls() {
			checkNewMemory(t, c.name+" of "+brief(g), value(c.do(h)), h)
		}
		for _, c := range calls() {
			first, second := c.do(h), c.do(h)
			want := memory(value(first))
			spoil(second)
			if got := memory(value(first)); got != want {
				t.Errorf("%s of %s: %s after a second answer changed, want %s", c.name, brief(g), got, want)
			}
		}
		kept := graph.Copy(h)
		want := tell(kept)
		spoil(&h)
		if tell(kept) != want {
			t.Errorf("Copy of %s: %s after the graph changed", brief(g), tell(kept))
		}
	}
}

// One list may be every shape, all arguments and attributes and all outputs.
func TestOneListForAll(t *testing.T) {
	l := []int{1, 2, 0, 9}[:2]
	one := api.Nat{1}
	x := api.Tensor{Shape: l, Elems: []api.Rat{{Num: one, Den: one}, {Neg: true, Num: one, Den: one}}}
	nodes := []api.Node{{Op: api.OpAdd, Args: l, Attrs: l[:0]}, {Op: api.OpReshape, Args: l[:1], Attrs: l}, {Op: api.OpAdd, Args: l, Attrs: l[2:2]}}
	g := api.Graph{
		Version: 3, Inputs: []api.Port{{Name: "x", Shape: l}, {Name: "y", Shape: l}}, Weights: []api.Weight{{Name: "v", Value: x}, {Name: "w", Value: x}},
		Body: api.Body{Nodes: nodes, Outputs: l}, HasVJP: true, VJP: api.Body{Nodes: nodes, Outputs: l},
	}
	before := memory(g)
	checkGraph(t, "one list", g, api.OK)
	shapes, e := graph.Shapes(g)
	if e != api.OK || len(shapes) != 7 {
		t.Errorf("Shapes: %v, error %d", shapes, e)
	}
	v, e := graph.VJP(g)
	if e != api.OK || len(v.Inputs) != 4 {
		t.Errorf("VJP: %s, error %d", tell(v), e)
	}
	checkNewMemory(t, "Shapes", shapes, g)
	checkNewMemory(t, "VJP", v, g)
	checkNewMemory(t, "Copy", graph.Copy(g), g)
	checkNewMemory(t, "Forward", graph.Forward(g), g)
	if memory(g) != before {
		t.Errorf("the graph: %s, before %s", memory(g), before)
	}
}

// A graph and its VJP may be one memory, and one output may come more than once.
func TestOneOutputOften(t *testing.T) {
	g := graphOf("version 3; input x 2 3; out 0 0 0; vjp; out 1")
	v, e := graph.VJP(g)
	if e != api.OK {
		t.Errorf("VJP: error %d", e)
	}
	checkNewMemory(t, "VJP", v, g)
	spoil(&v.Inputs[1])
	for _, i := range []int{0, 2, 3} {
		if !slices.Equal(v.Inputs[i].Shape, api.Shape{2, 3}) {
			t.Errorf("the shape of input %d: %v", i, v.Inputs[i].Shape)
		}
	}
}

// emptied makes every list without elements an empty one, or nil.
func emptied(g api.Graph, isNil bool) api.Graph {
	g = graph.Copy(g)
	eachList(&g, func(l reflect.Value) {
		if l.Len() == 0 && isNil {
			l.SetZero()
		} else if l.Len() == 0 {
			l.Set(reflect.MakeSlice(l.Type(), 0, 0))
		}
	})
	return g
}

func TestNilAndEmpty(t *testing.T) {
	for _, g := range given() {
		none, empty := emptied(g, true), emptied(g, false)
		for _, pair := range [][2]api.Graph{{g, none}, {g, empty}, {none, empty}, {empty, none}} {
			if !graph.Same(pair[0], pair[1]) {
				t.Errorf("Same of nil and empty: %s", brief(g))
			}
		}
		for _, c := range calls() {
			if a, b := fmt.Sprint(value(c.do(none))), fmt.Sprint(value(c.do(empty))); a != b {
				t.Errorf("%s of nil: %s, of empty: %s", c.name, a, b)
			}
		}
	}
}

// P13.3

func TestCopy(t *testing.T) {
	for _, g := range given() {
		before := tell(g)
		c := graph.Copy(g)
		if tell(c) != before || !graph.Same(c, g) || !graph.Same(g, c) {
			t.Errorf("Copy of %s: %s", before, tell(c))
		}
		if e := graph.Check(c); e != graph.Check(g) {
			t.Errorf("Check of a copy of %s: %d", before, e)
		}
	}
}

// What is not valid is copied as it is, and not as what it counts as.
func TestCopyOfNumbersThatAreNotValid(t *testing.T) {
	for _, x := range []api.Rat{{}, {Neg: true}, {Num: api.Nat{2}, Den: api.Nat{4}}, {Num: api.Nat{1, 0, 0}, Den: api.Nat{1, 0}}, {Neg: true, Num: api.Nat{0}, Den: api.Nat{5}}} {
		g := weighted(func(w *api.Tensor) { w.Elems = []api.Rat{x, x} })
		for _, c := range []api.Graph{graph.Copy(g), graph.Forward(g)} {
			if tell(c) != tell(g) {
				t.Errorf("a copy of %s: %s", tell(g), tell(c))
			}
		}
	}
}

// full has something in every field; it is valid.
func full() api.Graph {
	g := graphOf("version 3; input x 2 3; input y 4; weight v 2; weight w 3 1; node matmul 0 3; node scale 4, 2 3; out 5 4; vjp; node transpose 5, 1 0; node matmul 2 6; node scale 1, 0 1; out 7 8")
	g.Weights[0].Value.Elems[1] = api.Rat{Neg: true, Num: api.Nat{7, 3}, Den: api.Nat{2, 5}}
	return g
}

// changes returns what may be done to the parts of a graph, told by their places among all parts.
func changes(g api.Graph) []func(g *api.Graph) {
	var all []func(g *api.Graph)
	at := func(place int, do func(part reflect.Value)) {
		all = append(all, func(g *api.Graph) {
			n := 0
			each(reflect.ValueOf(g).Elem(), func(part reflect.Value) {
				if n++; n == place {
					do(part)
				}
			})
		})
	}
	n := 0
	each(reflect.ValueOf(&g).Elem(), func(part reflect.Value) {
		n++
		switch part.Kind() {
		case reflect.Struct:
		case reflect.Slice:
			at(n, lengthen)
			if part.Len() > 0 {
				at(n, func(l reflect.Value) { l.Set(l.Slice(0, l.Len()-1)) })
			}
		default:
			at(n, alter)
		}
	})
	return all
}

// lengthen adds something that is not nothing: a limb of 0 would leave a number as it is.
func lengthen(l reflect.Value) {
	x := reflect.New(l.Type().Elem()).Elem()
	alter(x)
	l.Set(reflect.Append(l, x))
}

func checkDiffer(t *testing.T, g, h api.Graph) {
	t.Helper()
	if graph.Same(g, h) || graph.Same(h, g) || !graph.Same(g, g) || !graph.Same(h, h) {
		t.Errorf("Same of %s and %s", tell(g), tell(h))
	}
}

func TestSameSeesEveryField(t *testing.T) {
	checkGraph(t, "a graph with something in every field", full(), api.OK)
	without, broken := full(), full()
	without.HasVJP = false
	broken.Version, broken.Inputs[1].Name, broken.Weights[1].Value.Shape[0] = 9, "x", 77
	for _, g := range append(given(), full(), without, broken) {
		if isNoNumber(g) {
			continue
		}
		for _, change := range changes(g) {
			h := graph.Copy(g)
			change(&h)
			checkDiffer(t, g, h)
		}
	}
	if n := len(changes(full())); n < 100 {
		t.Errorf("%d changes", n)
	}
}

// isNoNumber tells of a number without a denominator, which no change of its numerator changes.
func isNoNumber(g api.Graph) bool {
	return slices.ContainsFunc(g.Weights, func(w api.Weight) bool {
		return slices.ContainsFunc(w.Value.Elems, func(x api.Rat) bool { return len(x.Num) == 0 || len(x.Den) == 0 })
	})
}

func TestSameFields(t *testing.T) {
	g := full()
	for i, change := range []func(g *api.Graph){
		func(g *api.Graph) { g.Version = 2 },
		func(g *api.Graph) { g.Inputs = g.Inputs[:1] },
		func(g *api.Graph) { slices.Reverse(g.Inputs) },
		func(g *api.Graph) { g.Inputs[1].Name = "X" },
		func(g *api.Graph) { g.Inputs[0].Shape = api.Shape{3, 2} },
		func(g *api.Graph) { g.Inputs[1].Shape = api.Shape{4, 1} },
		func(g *api.Graph) { g.Weights = nil },
		func(g *api.Graph) { slices.Reverse(g.Weights) },
		func(g *api.Graph) { g.Weights[0].Name = "" },
		func(g *api.Graph) { g.Weights[1].Value.Shape = api.Shape{1, 3} },
		func(g *api.Graph) { g.Weights[1].Value.Elems[2] = rat.Int(-3) },
		func(g *api.Graph) { g.Body.Nodes[0].Op = api.OpAdd },
		func(g *api.Graph) { g.Body.Nodes[0].Args[1] = -3 },
		func(g *api.Graph) { slices.Reverse(g.Body.Nodes[0].Args) },
		func(g *api.Graph) { g.Body.Nodes[0].Attrs = []int{0} },
		func(g *api.Graph) { g.Body.Nodes[1].Attrs = nil },
		func(g *api.Graph) { g.Body.Nodes[1].Attrs[0] = -2 },
		func(g *api.Graph) { slices.Reverse(g.Body.Nodes) },
		func(g *api.Graph) { g.Body.Nodes = append(g.Body.Nodes, api.Node{}) },
		func(g *api.Graph) { slices.Reverse(g.Body.Outputs) },
		func(g *api.Graph) { g.Body.Outputs = append(g.Body.Outputs, 0) },
		func(g *api.Graph) { g.HasVJP = false },
		func(g *api.Graph) { g.VJP.Nodes[2].Op = 0 },
		func(g *api.Graph) { g.VJP.Nodes[2].Attrs[1] = 9 },
		func(g *api.Graph) { g.VJP.Nodes[1].Args[0] = 9 },
		func(g *api.Graph) { g.VJP.Nodes = g.VJP.Nodes[:2] },
		func(g *api.Graph) { g.VJP.Outputs[1] = 0 },
		func(g *api.Graph) { g.VJP.Outputs = nil },
		func(g *api.Graph) { g.VJP = api.Body{} },
		func(g *api.Graph) { g.Body, g.VJP = g.VJP, g.Body },
	} {
		h := graph.Copy(g)
		change(&h)
		if graph.Same(g, h) || graph.Same(h, g) || !graph.Same(h, graph.Copy(h)) {
			t.Errorf("Same after change %d: %s and %s", i, tell(g), tell(h))
		}
	}
}

// Weights are compared as numbers.
func TestSameNumbers(t *testing.T) {
	with := func(x api.Rat) api.Graph {
		return weighted(func(w *api.Tensor) { w.Elems[1] = x })
	}
	half, nought := []api.Rat{{Num: api.Nat{1}, Den: api.Nat{2}}, {Num: api.Nat{2}, Den: api.Nat{4}}, {Num: api.Nat{1, 0}, Den: api.Nat{2, 0, 0}}, {Num: api.Nat{0, 1}, Den: api.Nat{0, 2}}},
		[]api.Rat{{Den: api.Nat{1}}, {}, {Neg: true}, {Neg: true, Den: api.Nat{3}}, {Num: api.Nat{0, 0}, Den: api.Nat{7}}, {Num: api.Nat{5}}, {Num: api.Nat{5}, Den: api.Nat{0}}}
	for _, x := range half {
		for _, y := range half {
			if !graph.Same(with(x), with(y)) {
				t.Errorf("Same of %v and %v", x, y)
			}
			y.Neg = true
			checkDiffer(t, with(x), with(y))
		}
		for _, y := range nought {
			checkDiffer(t, with(x), with(y))
		}
	}
	for _, x := range nought {
		for _, y := range nought {
			if !graph.Same(with(x), with(y)) {
				t.Errorf("Same of %v and %v", x, y)
			}
		}
	}
}

// Only weights are numbers: everything else is compared field by field.
func TestSameIsNoMeaning(t *testing.T) {
	for _, pair := range [][2]string{
		{"version 1; input x; node pow 0", "version 1; input x; node pow 0, 2"},
		{"version 1; input x 2 3; node transpose 0", "version 1; input x 2 3; node transpose 0, 1 0"},
		{"version 3; input x; input y; node add 0 1", "version 3; input x; input y; node add 1 0"},
		{"version 3; input x 0", "version 3; input x 0 0"},
		{"version 3; node scale 0, 1 2", "version 3; node scale 0, 2 4"},
		{"version 3; vjp", "version 3"},
	} {
		checkDiffer(t, graphOf(pair[0]), graphOf(pair[1]))
	}
}

// P0.7

func TestAllCallsEnd(t *testing.T) {
	long := strings.Repeat("a", 1<<20)
	ones := slices.Repeat([]int{1}, 100000)
	numbers := []int{math.MinInt, -1, 0, 1, 3, api.MaxAttr, api.MaxAttr + 1, math.MaxInt}
	all := []api.Graph{
		{Version: math.MinInt, HasVJP: true},
		{Version: 3, Inputs: slices.Repeat([]api.Port{{Name: "~" + strings.Repeat("9", 1<<20), Shape: ones}}, 5)},
		{Version: 3, Inputs: slices.Repeat([]api.Port{{Name: "x", Shape: api.Shape{2}}, {Name: "~0"}}, 100000)},
		{Version: 3, Inputs: []api.Port{{Name: long, Shape: ones}}, Weights: make([]api.Weight, 200000)},
		{Version: 3, Weights: make([]api.Weight, 64), Body: api.Body{Nodes: make([]api.Node, 200000), Outputs: ones}},
		{Version: 3, Inputs: []api.Port{{Name: "x"}}, Body: api.Body{Outputs: ones}, HasVJP: true, VJP: api.Body{Nodes: make([]api.Node, 200000), Outputs: ones}},
		{Version: 3, Inputs: []api.Port{{Name: "x"}}, HasVJP: true, VJP: api.Body{Nodes: make([]api.Node, 200000), Outputs: ones}},
		{Version: 3, Weights: []api.Weight{{Name: "w", Value: api.Tensor{Elems: []api.Rat{{Num: slices.Repeat(api.Nat{0, 6}, 500), Den: slices.Repeat(api.Nat{9, 0}, 500)}}}}}},
		{Version: 3, Inputs: []api.Port{{Name: "x"}}, Body: api.Body{Nodes: []api.Node{{Op: api.OpConcat, Args: ones, Attrs: ones}}}},
	}
	for _, n := range numbers {
		for _, m := range numbers {
			all = append(all,
				api.Graph{Version: 3, Inputs: []api.Port{{Name: "x", Shape: api.Shape{n, m}}}, Weights: []api.Weight{{Name: "w", Value: api.Tensor{Shape: api.Shape{m, n}}}}},
				api.Graph{Version: 3, Inputs: []api.Port{{Name: "x", Shape: api.Shape{2}}}, Body: api.Body{Nodes: []api.Node{{Op: api.OpPad, Args: []int{n}, Attrs: []int{n, m}}, {Op: api.Op(m), Args: []int{m}, Attrs: []int{n}}}, Outputs: []int{m}}},
				api.Graph{Version: 3, Inputs: []api.Port{{Name: "x", Shape: api.Shape{2}}}, HasVJP: true, VJP: api.Body{Nodes: []api.Node{{Op: api.Op(n), Args: []int{m, n}}}, Outputs: []int{m}}},
				api.Graph{Version: n, Weights: []api.Weight{{Name: "w"}}, Body: api.Body{Outputs: []int{n}}, VJP: api.Body{Outputs: []int{n, m}}})
		}
	}
	for _, g := range all {
		for _, c := range calls() {
			c.do(g)
		}
		graph.Find(g, long)
		graph.Same(g, all[1])
	}
	graph.Name(long)
	graph.Name(strings.Repeat("\xff", 1<<20))
}
