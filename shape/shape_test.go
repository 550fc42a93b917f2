package shape_test

import (
	"math"
	"slices"
	"testing"

	"fluxion/api"
	"fluxion/shape"
)

// refused are shapes that may not be, with the error that goes first.
var refused = []struct {
	s api.Shape
	e api.Errno
}{
	{api.Shape{1, 1, 1, 1, 1}, api.ErrLimit},
	{make(api.Shape, 100000), api.ErrLimit},
	// Too many dimensions go before one below 1.
	{api.Shape{0, 1, 1, 1, 1}, api.ErrLimit},
	{api.Shape{1, 1, 1, 1, -1}, api.ErrLimit},
	{api.Shape{-1, -1, -1, -1, -1}, api.ErrLimit},
	{api.Shape{0}, api.ErrShape},
	{api.Shape{-1}, api.ErrShape},
	{api.Shape{math.MinInt}, api.ErrShape},
	{api.Shape{0, 0, 0, 0}, api.ErrShape},
	{api.Shape{2, 0, 3}, api.ErrShape},
	{api.Shape{2, 3, 0}, api.ErrShape},
	{api.Shape{1, 1, 1, 0}, api.ErrShape},
	// The product of two negative ones is a count that would do.
	{api.Shape{-2, -2}, api.ErrShape},
	{api.Shape{-1, -1, 5}, api.ErrShape},
	// A dimension below 1 goes before a count that is too great, wherever it is.
	{api.Shape{2000, 0}, api.ErrShape},
	{api.Shape{0, 2000}, api.ErrShape},
	{api.Shape{32, 33, 0}, api.ErrShape},
	{api.Shape{32, 33, 2, -7}, api.ErrShape},
	{api.Shape{math.MaxInt, math.MaxInt, 0, 1}, api.ErrShape},
	{api.Shape{1025}, api.ErrLimit},
	{api.Shape{32, 33}, api.ErrLimit},
	{api.Shape{2, 513}, api.ErrLimit},
	{api.Shape{1024, 2}, api.ErrLimit},
	{api.Shape{1, 1, 2, 1024}, api.ErrLimit},
	{api.Shape{1024, 1, 2, 1}, api.ErrLimit},
	{api.Shape{6, 6, 6, 6}, api.ErrLimit},
	{api.Shape{2000, 1, 1, 1}, api.ErrLimit},
	{api.Shape{2000, 2000}, api.ErrLimit},
	// These products don't fit an int: wrapped round, they would be 0, 1, 4 or negative.
	{api.Shape{math.MaxInt}, api.ErrLimit},
	{api.Shape{math.MaxInt, 2}, api.ErrLimit},
	{api.Shape{math.MaxInt, math.MaxInt}, api.ErrLimit},
	{api.Shape{math.MaxInt, math.MaxInt, math.MaxInt, math.MaxInt}, api.ErrLimit},
	{api.Shape{1 << 62, 4}, api.ErrLimit},
	{api.Shape{1 << 62, 2}, api.ErrLimit},
	{api.Shape{1 << 32, 1 << 32}, api.ErrLimit},
	{api.Shape{1<<32 + 1, 1<<32 - 1, 1}, api.ErrLimit},
	{api.Shape{1 << 31, 1 << 31, 2, 2}, api.ErrLimit},
	{api.Shape{5, 1 << 31, 1 << 31, 4}, api.ErrLimit},
	{api.Shape{1<<62 + 1, 4}, api.ErrLimit},
	{api.Shape{4, 1 << 62}, api.ErrLimit},
	{api.Shape{2, 1 << 62}, api.ErrLimit},
	{api.Shape{4, 1<<62 + 1}, api.ErrLimit},
	{api.Shape{2, math.MaxInt}, api.ErrLimit},
	{api.Shape{1, 1024, 1<<54 + 1, 1}, api.ErrLimit},
	{api.Shape{16, 64, 1 << 60}, api.ErrLimit},
}

// valid are shapes with their counts and strides.
var valid = []struct {
	s       api.Shape
	count   int
	strides []int
}{
	{nil, 1, nil},
	{api.Shape{}, 1, nil},
	{api.Shape{1}, 1, []int{1}},
	{api.Shape{7}, 7, []int{1}},
	{api.Shape{1024}, 1024, []int{1}},
	{api.Shape{2, 3, 4}, 24, []int{12, 4, 1}},
	{api.Shape{4, 3, 2}, 24, []int{6, 2, 1}},
	{api.Shape{32, 32}, 1024, []int{32, 1}},
	{api.Shape{2, 512}, 1024, []int{512, 1}},
	{api.Shape{1, 1, 1, 1}, 1, []int{1, 1, 1, 1}},
	{api.Shape{1, 1, 1, 1024}, 1024, []int{1024, 1024, 1024, 1}},
	{api.Shape{1024, 1, 1, 1}, 1024, []int{1, 1, 1, 1}},
	{api.Shape{4, 4, 8, 8}, 1024, []int{256, 64, 8, 1}},
	{api.Shape{3, 1, 2, 4}, 24, []int{8, 8, 4, 1}},
	{api.Shape{31, 33}, 1023, []int{33, 1}},
}

func checkList(t *testing.T, call string, got, want []int) {
	t.Helper()
	if !slices.Equal(got, want) {
		t.Errorf("%s: %v, want %v", call, got, want)
	}
}

func checkError(t *testing.T, call string, got, want api.Errno) {
	t.Helper()
	if got != want {
		t.Errorf("%s: error %d, want %d", call, got, want)
	}
}

// P6.1

func TestValidShapes(t *testing.T) {
	for _, c := range valid {
		checkError(t, "May", shape.May(c.s), api.OK)
		if n := shape.Count(c.s); n != c.count {
			t.Errorf("Count of %v: %d, want %d", c.s, n, c.count)
		}
		checkList(t, "Strides", shape.Strides(c.s), c.strides)
	}
}

func TestRefusedShapes(t *testing.T) {
	for i, c := range refused {
		if e := shape.May(c.s); e != c.e {
			t.Errorf("May of shape %d: error %d, want %d", i, e, c.e)
		}
		if n := shape.Count(c.s); n != 0 {
			t.Errorf("Count of shape %d: %d", i, n)
		}
		checkList(t, "Strides", shape.Strides(c.s), nil)
	}
}

func TestSame(t *testing.T) {
	for _, c := range []struct {
		a, b api.Shape
		same bool
	}{
		{nil, nil, true},
		{nil, api.Shape{}, true},
		{api.Shape{}, nil, true},
		{nil, api.Shape{1}, false},
		{api.Shape{1}, nil, false},
		{nil, api.Shape{0}, false},
		{api.Shape{2, 3}, api.Shape{2, 3}, true},
		{api.Shape{2, 3}, api.Shape{3, 2}, false},
		{api.Shape{2, 3}, api.Shape{2, 4}, false},
		{api.Shape{2, 3}, api.Shape{1, 3}, false},
		{api.Shape{2, 3}, api.Shape{2}, false},
		{api.Shape{2, 3}, api.Shape{2, 3, 1}, false},
		{api.Shape{3}, api.Shape{1, 3}, false},
		// Shapes that may not be are compared too.
		{api.Shape{0}, api.Shape{0}, true},
		{api.Shape{0}, api.Shape{-1}, false},
		{api.Shape{9, 9, 9, 9, 9}, api.Shape{9, 9, 9, 9, 9}, true},
		{api.Shape{9, 9, 9, 9, 9}, api.Shape{9, 9, 9, 9, 8}, false},
		{api.Shape{2000}, api.Shape{2000}, true},
	} {
		if got := shape.Same(c.a, c.b); got != c.same {
			t.Errorf("Same of %v and %v: %t", c.a, c.b, got)
		}
	}
}

// P6.2

func TestOffset(t *testing.T) {
	for _, c := range []struct {
		s     api.Shape
		index []int
		want  int
	}{
		{nil, nil, 0},
		{api.Shape{}, []int{}, 0},
		{api.Shape{1}, []int{0}, 0},
		{api.Shape{1, 1, 1, 1}, []int{0, 0, 0, 0}, 0},
		{api.Shape{7}, []int{6}, 6},
		{api.Shape{2, 3, 4}, []int{0, 0, 0}, 0},
		{api.Shape{2, 3, 4}, []int{0, 0, 1}, 1},
		{api.Shape{2, 3, 4}, []int{0, 1, 0}, 4},
		{api.Shape{2, 3, 4}, []int{1, 0, 0}, 12},
		{api.Shape{2, 3, 4}, []int{1, 0, 2}, 14},
		{api.Shape{2, 3, 4}, []int{1, 2, 3}, 23},
		{api.Shape{3, 1, 2, 4}, []int{2, 0, 1, 2}, 22},
		{api.Shape{32, 32}, []int{31, 31}, 1023},
		{api.Shape{4, 4, 8, 8}, []int{3, 3, 7, 7}, 1023},
		{api.Shape{1, 1, 1, 1024}, []int{0, 0, 0, 1023}, 1023},
	} {
		n, e := shape.Offset(c.s, c.index...)
		if n != c.want || e != api.OK {
			t.Errorf("Offset of %v in %v: %d, error %d, want %d", c.index, c.s, n, e, c.want)
		}
		l, e := shape.Index(c.s, c.want)
		checkError(t, "Index", e, api.OK)
		checkList(t, "Index", l, c.index)
	}
}

func TestOffsetErrors(t *testing.T) {
	s := api.Shape{2, 3, 4}
	for _, c := range []struct {
		s     api.Shape
		index []int
		e     api.Errno
	}{
		{s, nil, api.ErrArg},
		{s, []int{0, 0}, api.ErrArg},
		{s, []int{0, 0, 0, 0}, api.ErrArg},
		{nil, []int{0}, api.ErrArg},
		// A wrong number of numbers goes before a wrong number.
		{s, []int{5, -1}, api.ErrArg},
		{s, []int{0, 0, 0, 9}, api.ErrArg},
		{nil, []int{-1}, api.ErrArg},
		{s, []int{-1, 0, 0}, api.ErrRange},
		{s, []int{0, -1, 0}, api.ErrRange},
		{s, []int{0, 0, -1}, api.ErrRange},
		{s, []int{2, 0, 0}, api.ErrRange},
		{s, []int{0, 3, 0}, api.ErrRange},
		{s, []int{0, 0, 4}, api.ErrRange},
		// The offsets of these would be among those of the shape.
		{s, []int{1, -1, 0}, api.ErrRange},
		{s, []int{0, 3, 3}, api.ErrRange},
		{s, []int{math.MaxInt, 0, 0}, api.ErrRange},
		{s, []int{math.MinInt, 0, 0}, api.ErrRange},
		{s, []int{0, math.MinInt, math.MinInt}, api.ErrRange},
		{s, []int{math.MaxInt, math.MaxInt, math.MaxInt}, api.ErrRange},
		{api.Shape{1}, []int{1}, api.ErrRange},
	} {
		if n, e := shape.Offset(c.s, c.index...); n != 0 || e != c.e {
			t.Errorf("Offset of %v in %v: %d, error %d, want error %d", c.index, c.s, n, e, c.e)
		}
	}
}

func TestIndexErrors(t *testing.T) {
	for _, c := range valid {
		for _, place := range []int{-1, -c.count, math.MinInt, c.count, c.count + 1, 2 * c.count, math.MaxInt} {
			if l, e := shape.Index(c.s, place); len(l) != 0 || e != api.ErrRange {
				t.Errorf("Index %d in %v: %v, error %d", place, c.s, l, e)
			}
		}
	}
}

// The errors of the shape go before those of what is asked about it.
func TestPlacesInRefusedShapes(t *testing.T) {
	for i, c := range refused {
		for _, index := range [][]int{nil, {0}, {-1}, make([]int, len(c.s))} {
			if n, e := shape.Offset(c.s, index...); n != 0 || e != c.e {
				t.Errorf("Offset in shape %d: %d, error %d, want error %d", i, n, e, c.e)
			}
		}
		for _, place := range []int{-1, 0, 1, math.MaxInt} {
			if l, e := shape.Index(c.s, place); len(l) != 0 || e != c.e {
				t.Errorf("Index in shape %d: %v, error %d, want error %d", i, l, e, c.e)
			}
		}
	}
}

// P6.3

func TestPerm(t *testing.T) {
	for _, c := range []struct {
		p    []int
		rank int
		e    api.Errno
	}{
		{nil, 0, api.OK},
		{[]int{}, 0, api.OK},
		{nil, -1, api.OK},
		{nil, math.MinInt, api.OK},
		{nil, 1, api.ErrAttr},
		{nil, math.MaxInt, api.ErrAttr},
		{[]int{0}, 1, api.OK},
		{[]int{0}, 0, api.ErrAttr},
		{[]int{0}, -1, api.ErrAttr},
		{[]int{0}, 2, api.ErrAttr},
		{[]int{1}, 1, api.ErrAttr},
		{[]int{-1}, 1, api.ErrAttr},
		{[]int{-1}, -1, api.ErrAttr},
		{[]int{0, 1}, 2, api.OK},
		{[]int{1, 0}, 2, api.OK},
		{[]int{0, 0}, 2, api.ErrAttr},
		{[]int{1, 1}, 2, api.ErrAttr},
		{[]int{1, 2}, 2, api.ErrAttr},
		{[]int{2, 0, 1}, 3, api.OK},
		{[]int{2, 0, 1}, 2, api.ErrAttr},
		{[]int{2, 0, 1}, 4, api.ErrAttr},
		{[]int{2, 0, 1}, math.MaxInt, api.ErrAttr},
		{[]int{3, 0, 1}, 3, api.ErrAttr},
		{[]int{2, 0, 2}, 3, api.ErrAttr},
		{[]int{0, 1, -1}, 3, api.ErrAttr},
		{[]int{0, 1, math.MaxInt}, 3, api.ErrAttr},
		{[]int{math.MinInt, 0, 1}, 3, api.ErrAttr},
		// A permutation may have more numbers than a shape has dimensions.
		{[]int{5, 4, 3, 2, 1, 0}, 6, api.OK},
	} {
		if e := shape.Perm(c.p, c.rank); e != c.e {
			t.Errorf("Perm of %v, rank %d: error %d, want %d", c.p, c.rank, e, c.e)
		}
	}
}

func TestInverse(t *testing.T) {
	for _, c := range []struct {
		p, want []int
		e       api.Errno
	}{
		{nil, nil, api.OK},
		{[]int{}, nil, api.OK},
		{[]int{0}, []int{0}, api.OK},
		{[]int{1, 0}, []int{1, 0}, api.OK},
		{[]int{2, 0, 1}, []int{1, 2, 0}, api.OK},
		{[]int{1, 2, 0}, []int{2, 0, 1}, api.OK},
		{[]int{3, 1, 0, 2}, []int{2, 1, 3, 0}, api.OK},
		{[]int{1, 2, 3, 4, 5, 0}, []int{5, 0, 1, 2, 3, 4}, api.OK},
		{[]int{1}, nil, api.ErrAttr},
		{[]int{-1}, nil, api.ErrAttr},
		{[]int{3}, nil, api.ErrAttr},
		{[]int{0, 0}, nil, api.ErrAttr},
		{[]int{0, 2}, nil, api.ErrAttr},
		{[]int{0, 1, 1}, nil, api.ErrAttr},
		{[]int{0, 1, 3}, nil, api.ErrAttr},
		{[]int{0, 1, -2}, nil, api.ErrAttr},
		{[]int{math.MaxInt, 0}, nil, api.ErrAttr},
		{[]int{0, math.MinInt}, nil, api.ErrAttr},
	} {
		l, e := shape.Inverse(c.p)
		checkError(t, "Inverse", e, c.e)
		checkList(t, "Inverse", l, c.want)
	}
}

func TestAxes(t *testing.T) {
	for _, c := range []struct {
		l    []int
		rank int
		e    api.Errno
	}{
		{nil, 0, api.OK},
		{nil, -5, api.OK},
		{nil, 4, api.OK},
		{[]int{}, math.MinInt, api.OK},
		{[]int{}, math.MaxInt, api.OK},
		{[]int{0}, 0, api.ErrAttr},
		{[]int{0}, -1, api.ErrAttr},
		{[]int{-2}, -1, api.ErrAttr},
		{[]int{math.MinInt}, math.MinInt, api.ErrAttr},
		{[]int{0}, 1, api.OK},
		{[]int{1}, 1, api.ErrAttr},
		{[]int{-1}, 1, api.ErrAttr},
		{[]int{2}, 3, api.OK},
		{[]int{3}, 3, api.ErrAttr},
		{[]int{0, 2}, 3, api.OK},
		{[]int{0, 1, 2}, 3, api.OK},
		{[]int{0, 3}, 3, api.ErrAttr},
		{[]int{0, 0}, 3, api.ErrAttr},
		{[]int{1, 1}, 3, api.ErrAttr},
		{[]int{1, 0}, 3, api.ErrAttr},
		{[]int{0, 2, 1}, 3, api.ErrAttr},
		{[]int{0, 1, 2, 2}, 3, api.ErrAttr},
		{[]int{-1, 0, 1}, 3, api.ErrAttr},
		{[]int{0, -1, 1}, 3, api.ErrAttr},
		{[]int{0, 1, math.MaxInt}, 3, api.ErrAttr},
		{[]int{0, 1, math.MaxInt - 1}, math.MaxInt, api.OK},
		{[]int{math.MaxInt}, math.MaxInt, api.ErrAttr},
		{[]int{0, 1, 2, 3, 4, 5}, 6, api.OK},
	} {
		if e := shape.Axes(c.l, c.rank); e != c.e {
			t.Errorf("Axes %v, rank %d: error %d, want %d", c.l, c.rank, e, c.e)
		}
	}
}

// P6.4

func TestFits(t *testing.T) {
	for _, c := range []struct {
		from, to api.Shape
		grown    []int
	}{
		{nil, nil, nil},
		{nil, api.Shape{1}, []int{0}},
		{nil, api.Shape{7}, []int{0}},
		{nil, api.Shape{2, 3, 4}, []int{0, 1, 2}},
		{nil, api.Shape{4, 4, 8, 8}, []int{0, 1, 2, 3}},
		{api.Shape{1}, api.Shape{1}, nil},
		{api.Shape{1}, api.Shape{5}, []int{0}},
		{api.Shape{1}, api.Shape{1, 1}, []int{0}},
		{api.Shape{1}, api.Shape{2, 3, 4}, []int{0, 1, 2}},
		{api.Shape{4}, api.Shape{2, 3, 4}, []int{0, 1}},
		{api.Shape{3, 4}, api.Shape{2, 3, 4}, []int{0}},
		{api.Shape{3, 1}, api.Shape{2, 3, 4}, []int{0, 2}},
		{api.Shape{1, 4}, api.Shape{2, 3, 4}, []int{0, 1}},
		{api.Shape{1, 1, 4}, api.Shape{2, 3, 4}, []int{0, 1}},
		{api.Shape{2, 1, 4}, api.Shape{2, 3, 4}, []int{1}},
		{api.Shape{2, 1, 1}, api.Shape{2, 3, 4}, []int{1, 2}},
		{api.Shape{1, 1, 1}, api.Shape{2, 3, 4}, []int{0, 1, 2}},
		// A dimension of 1 that stays 1 hasn't grown; one that wasn't there has.
		{api.Shape{1, 3}, api.Shape{1, 3}, nil},
		{api.Shape{3}, api.Shape{1, 3}, []int{0}},
		{api.Shape{3, 1}, api.Shape{1, 3, 1}, []int{0}},
		{api.Shape{1, 1, 1, 1}, api.Shape{1, 1, 1, 1024}, []int{3}},
	} {
		if e := shape.Fits(c.from, c.to); e != api.OK {
			t.Errorf("Fits of %v and %v: error %d", c.from, c.to, e)
		}
		checkList(t, "Grown", shape.Grown(c.from, c.to), c.grown)
	}
	for _, c := range valid {
		checkError(t, "Fits of a shape and itself", shape.Fits(c.s, c.s), api.OK)
		checkList(t, "Grown of a shape and itself", shape.Grown(c.s, c.s), nil)
	}
}

func TestUnfit(t *testing.T) {
	for _, c := range []struct{ from, to api.Shape }{
		{api.Shape{1}, nil},
		{api.Shape{1, 1}, api.Shape{1}},
		{api.Shape{1, 2, 3, 4}, api.Shape{2, 3, 4}},
		{api.Shape{1, 1, 1, 1}, api.Shape{1, 1, 1}},
		{api.Shape{2}, api.Shape{3}},
		{api.Shape{3}, api.Shape{2}},
		{api.Shape{2}, api.Shape{1}},
		{api.Shape{2}, api.Shape{4}},
		{api.Shape{2}, api.Shape{2, 3, 4}},
		{api.Shape{2, 3}, api.Shape{2, 3, 4}},
		{api.Shape{2, 3, 1}, api.Shape{2, 1, 4}},
		{api.Shape{2, 3, 4}, api.Shape{2, 3, 1}},
		{api.Shape{2, 3, 4}, api.Shape{1, 3, 4}},
		{api.Shape{2, 3, 4}, api.Shape{2, 4, 3}},
		{api.Shape{1, 1, 2}, api.Shape{2, 3, 4}},
		{api.Shape{3, 1, 1}, api.Shape{2, 3, 4}},
	} {
		if e := shape.Fits(c.from, c.to); e != api.ErrShape {
			t.Errorf("Fits of %v and %v: error %d", c.from, c.to, e)
		}
		checkList(t, "Grown", shape.Grown(c.from, c.to), nil)
	}
}

func TestFitsOfRefusedShapes(t *testing.T) {
	for _, c := range refused {
		for _, s := range valid {
			checkError(t, "Fits, the first one refused", shape.Fits(c.s, s.s), c.e)
			checkError(t, "Fits, the second one refused", shape.Fits(s.s, c.s), c.e)
			checkList(t, "Grown, the first one refused", shape.Grown(c.s, s.s), nil)
			checkList(t, "Grown, the second one refused", shape.Grown(s.s, c.s), nil)
		}
		for _, d := range refused {
			checkError(t, "Fits, both refused", shape.Fits(c.s, d.s), c.e)
			checkList(t, "Grown, both refused", shape.Grown(c.s, d.s), nil)
		}
	}
}

// P6.5

func TestDropAndOnes(t *testing.T) {
	s := api.Shape{2, 3, 4}
	for _, c := range []struct {
		s          api.Shape
		axes       []int
		drop, ones api.Shape
	}{
		{s, nil, s, s},
		{s, []int{0}, api.Shape{3, 4}, api.Shape{1, 3, 4}},
		{s, []int{1}, api.Shape{2, 4}, api.Shape{2, 1, 4}},
		{s, []int{2}, api.Shape{2, 3}, api.Shape{2, 3, 1}},
		{s, []int{0, 2}, api.Shape{3}, api.Shape{1, 3, 1}},
		{s, []int{2, 0}, api.Shape{3}, api.Shape{1, 3, 1}},
		{s, []int{0, 1, 2}, nil, api.Shape{1, 1, 1}},
		{s, []int{1, 1, 1}, api.Shape{2, 4}, api.Shape{2, 1, 4}},
		{s, []int{2, 0, 2, 0, 0}, api.Shape{3}, api.Shape{1, 3, 1}},
		{s, []int{3}, s, s},
		{s, []int{-1}, s, s},
		{s, []int{-3, math.MinInt, 3, math.MaxInt}, s, s},
		{s, []int{-1, 9, 0, 7, -2, 2}, api.Shape{3}, api.Shape{1, 3, 1}},
		{nil, nil, nil, nil},
		{nil, []int{0, -1, 1}, nil, nil},
		{api.Shape{1}, []int{0}, nil, api.Shape{1}},
		{api.Shape{2, 2, 2}, []int{1}, api.Shape{2, 2}, api.Shape{2, 1, 2}},
		// Any shape will do.
		{api.Shape{-5, 0}, []int{0}, api.Shape{0}, api.Shape{1, 0}},
		{api.Shape{-5, 0}, []int{1}, api.Shape{-5}, api.Shape{-5, 1}},
		{api.Shape{-5, 0}, nil, api.Shape{-5, 0}, api.Shape{-5, 0}},
		{api.Shape{9, 8, 7, 6, 5, 4}, []int{4, 5, 6}, api.Shape{9, 8, 7, 6}, api.Shape{9, 8, 7, 6, 1, 1}},
		{api.Shape{math.MaxInt, math.MinInt, 2000}, []int{2}, api.Shape{math.MaxInt, math.MinInt}, api.Shape{math.MaxInt, math.MinInt, 1}},
	} {
		checkList(t, "Drop", shape.Drop(c.s, c.axes...), c.drop)
		checkList(t, "Ones", shape.Ones(c.s, c.axes...), c.ones)
	}
}

func TestExamples(t *testing.T) {
	s := api.Shape{2, 3, 4}
	checkList(t, "Strides", shape.Strides(s), []int{12, 4, 1})
	if n, e := shape.Offset(s, 1, 0, 2); n != 14 || e != api.OK {
		t.Errorf("Offset: %d, error %d", n, e)
	}
	l, e := shape.Index(s, 23)
	checkList(t, "Index", l, []int{1, 2, 3})
	checkError(t, "Index", e, api.OK)
	checkList(t, "Drop", shape.Drop(s, 1), []int{2, 4})
	checkList(t, "Ones", shape.Ones(s, 0, 2), []int{1, 3, 1})
	checkError(t, "Fits", shape.Fits(api.Shape{3, 1}, s), api.OK)
	checkList(t, "Grown", shape.Grown(api.Shape{3, 1}, s), []int{0, 2})
}
