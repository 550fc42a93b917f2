package shape_test

import (
	"slices"
	"testing"

	"fluxion/api"
	"fluxion/shape"
)

// lists returns all lists of up to a length with numbers from low to high.
func lists(length, low, high int) [][]int {
	all := [][]int{nil}
	longest := [][]int{nil}
	for range length {
		var next [][]int
		for _, l := range longest {
			for n := low; n <= high; n++ {
				next = append(next, append(slices.Clone(l), n))
			}
		}
		all = append(all, next...)
		longest = next
	}
	return all
}

// shapes returns all shapes of small dimensions, and those that are listed as valid.
func shapes(most int) []api.Shape {
	var list []api.Shape
	for _, l := range lists(api.MaxRank, 1, most) {
		list = append(list, l)
	}
	for _, c := range valid {
		list = append(list, c.s)
	}
	return list
}

// inOrder lists all indices of a shape as the definition orders them, without any offset.
func inOrder(s api.Shape) [][]int {
	all := [][]int{nil}
	for _, d := range s {
		var next [][]int
		for _, l := range all {
			for n := range d {
				next = append(next, append(slices.Clone(l), n))
			}
		}
		all = next
	}
	return all
}

// P6.6

func TestOffsetsCountTheIndices(t *testing.T) {
	for _, s := range shapes(4) {
		all := inOrder(s)
		if n := shape.Count(s); n != len(all) {
			t.Errorf("Count of %v: %d, want %d", s, n, len(all))
		}
		for place, index := range all {
			l, e := shape.Index(s, place)
			if !slices.Equal(l, index) || e != api.OK {
				t.Errorf("Index %d in %v: %v, error %d, want %v", place, s, l, e, index)
			}
			n, e := shape.Offset(s, index...)
			if n != place || e != api.OK {
				t.Errorf("Offset of %v in %v: %d, error %d, want %d", index, s, n, e, place)
			}
		}
	}
}

func TestIndicesAreOrdered(t *testing.T) {
	for _, s := range shapes(4) {
		for place := 1; place < shape.Count(s); place++ {
			before, _ := shape.Index(s, place-1)
			after, _ := shape.Index(s, place)
			if slices.Compare(before, after) >= 0 {
				t.Errorf("%v: %v at %d, before %v", s, before, place-1, after)
			}
		}
	}
}

func TestStridesAreSteps(t *testing.T) {
	for _, s := range shapes(4) {
		strides := shape.Strides(s)
		for place, index := range inOrder(s) {
			sum := 0
			for i, n := range index {
				sum += n * strides[i]
				index[i]++
				if m, e := shape.Offset(s, index...); e == api.OK && m != place+strides[i] {
					t.Errorf("%v: a step of dimension %d from %d to %d", s, i, place, m)
				}
				index[i]--
			}
			if sum != place {
				t.Errorf("%v: the strides lead to %d, want %d", s, sum, place)
			}
		}
	}
}

// Every list of four numbers from below 0 to beyond the dimensions is an index or an error.
func TestAllNearIndices(t *testing.T) {
	s := api.Shape{2, 3, 1}
	all := inOrder(s)
	for _, l := range lists(4, -1, 3) {
		want, wantE := slices.IndexFunc(all, func(x []int) bool { return slices.Equal(x, l) }), api.OK
		switch {
		case len(l) != len(s):
			want, wantE = 0, api.ErrArg
		case want < 0:
			want, wantE = 0, api.ErrRange
		}
		if n, e := shape.Offset(s, l...); n != want || e != wantE {
			t.Errorf("Offset of %v: %d, error %d, want %d, %d", l, n, e, want, wantE)
		}
	}
}

// isPerm asks for each number by itself.
func isPerm(p []int, rank int) bool {
	if len(p) != max(rank, 0) {
		return false
	}
	for i := range p {
		if !slices.Contains(p, i) {
			return false
		}
	}
	return true
}

func isAxes(l []int, rank int) bool {
	for i, n := range l {
		if n < 0 || n >= max(rank, 0) || slices.Contains(l[:i], n) {
			return false
		}
	}
	return slices.IsSorted(l)
}

func errorUnless(ok bool) api.Errno {
	if ok {
		return api.OK
	}
	return api.ErrAttr
}

func TestAllSmallLists(t *testing.T) {
	for _, l := range lists(5, -1, 5) {
		for rank := -2; rank <= 6; rank++ {
			if e := shape.Perm(l, rank); e != errorUnless(isPerm(l, rank)) {
				t.Errorf("Perm of %v, rank %d: error %d", l, rank, e)
			}
			if e := shape.Axes(l, rank); e != errorUnless(isAxes(l, rank)) {
				t.Errorf("Axes %v, rank %d: error %d", l, rank, e)
			}
		}
		checkInverse(t, l)
	}
}

func checkInverse(t *testing.T, p []int) {
	t.Helper()
	q, e := shape.Inverse(p)
	if e != errorUnless(isPerm(p, len(p))) || e != api.OK && len(q) != 0 {
		t.Errorf("Inverse of %v: %v, error %d", p, q, e)
	}
	if e != api.OK {
		return
	}
	for i, n := range p {
		if q[n] != i {
			t.Errorf("Inverse of %v: %v", p, q)
		}
	}
	r, e := shape.Inverse(q)
	if !slices.Equal(r, p) || e != api.OK {
		t.Errorf("Inverse of Inverse of %v: %v, error %d", p, r, e)
	}
}

func TestLongPermutations(t *testing.T) {
	p := make([]int, 100003)
	for i := range p {
		p[i] = (i*7 + 3) % len(p)
	}
	checkError(t, "Perm", shape.Perm(p, len(p)), api.OK)
	checkError(t, "Perm, one more", shape.Perm(p, len(p)+1), api.ErrAttr)
	q, e := shape.Inverse(p)
	checkError(t, "Inverse", e, api.OK)
	r, e := shape.Inverse(q)
	checkError(t, "Inverse of Inverse", e, api.OK)
	checkList(t, "Inverse of Inverse", r, p)
	p[0] = p[len(p)-1]
	checkError(t, "Perm of a number twice", shape.Perm(p, len(p)), api.ErrAttr)
}

// grownOf works the axes out from the definition, counting from the end.
func grownOf(from, to api.Shape) ([]int, bool) {
	var axes []int
	for k := 1; k <= max(len(from), len(to)); k++ {
		if k > len(to) {
			return nil, false
		}
		if k > len(from) || from[len(from)-k] != to[len(to)-k] {
			if k <= len(from) && from[len(from)-k] != 1 {
				return nil, false
			}
			axes = append([]int{len(to) - k}, axes...)
		}
	}
	return axes, true
}

func TestFitsOfAllSmallShapes(t *testing.T) {
	list := shapes(3)
	for _, from := range list {
		for _, to := range list {
			want, ok := grownOf(from, to)
			if e := shape.Fits(from, to); (e == api.OK) != ok || !ok && e != api.ErrShape {
				t.Errorf("Fits of %v and %v: error %d", from, to, e)
			}
			got := shape.Grown(from, to)
			if !slices.Equal(got, want) || shape.Axes(got, len(to)) != api.OK {
				t.Errorf("Grown of %v and %v: %v, want %v", from, to, got, want)
			}
		}
	}
}

func TestFitsIsPassedOn(t *testing.T) {
	list := shapes(2)
	for _, a := range list {
		for _, b := range list {
			if shape.Fits(a, b) != api.OK {
				continue
			}
			for _, c := range list {
				if shape.Fits(b, c) == api.OK && shape.Fits(a, c) != api.OK {
					t.Errorf("%v fits %v, and that %v", a, b, c)
				}
			}
		}
	}
}

// Without the grown axes, and with 1 for them, the greater shape is the smaller one again.
func TestGrownAxesAreDropped(t *testing.T) {
	list := shapes(3)
	for _, from := range list {
		for _, to := range list {
			if shape.Fits(from, to) != api.OK {
				continue
			}
			ones := shape.Ones(to, shape.Grown(from, to)...)
			if !slices.Equal(ones[len(to)-len(from):], from) || shape.Fits(ones, to) != api.OK {
				t.Errorf("Ones of %v for %v: %v", to, from, ones)
			}
			drop := shape.Drop(to, shape.Grown(from, to)...)
			left := slices.DeleteFunc(slices.Clone(from), func(d int) bool { return d == 1 })
			if !slices.Equal(slices.DeleteFunc(drop, func(d int) bool { return d == 1 }), left) {
				t.Errorf("Drop of %v for %v: %v", to, from, drop)
			}
		}
	}
}

func TestDropAndOnesOfAllSmallLists(t *testing.T) {
	for _, s := range []api.Shape{nil, {5}, {2, 3}, {0, -1, 7}, {2, 3, 4, 5}} {
		for _, axes := range lists(4, -1, 5) {
			var drop, ones api.Shape
			for i, d := range s {
				if slices.Contains(axes, i) {
					ones = append(ones, 1)
					continue
				}
				drop = append(drop, d)
				ones = append(ones, d)
			}
			checkList(t, "Drop", shape.Drop(s, axes...), drop)
			checkList(t, "Ones", shape.Ones(s, axes...), ones)
		}
	}
}
