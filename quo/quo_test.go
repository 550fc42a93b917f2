package quo_test

import (
	"math"
	"slices"
	"testing"

	"fluxion/api"
	"fluxion/nat"
	"fluxion/quo"
)

const (
	top  = math.MaxUint32
	half = 1 << 31
)

func same(t *testing.T, call string, got, want api.Nat) {
	t.Helper()
	if !slices.Equal(got, want) {
		t.Errorf("%s: got %x, want %x", call, got, want)
	}
}

// long returns the same number with zero limbs at its end.
func long(a api.Nat) api.Nat { return append(slices.Clone(a), 0, 0, 0) }

// P2.1

type division struct{ a, b, q, r api.Nat }

func checkDivisions(t *testing.T, list []division) {
	t.Helper()
	for _, x := range list {
		for _, a := range []api.Nat{x.a, long(x.a)} {
			for _, b := range []api.Nat{x.b, long(x.b)} {
				q, r, e := quo.DivMod(a, b)
				if e != api.OK {
					t.Errorf("DivMod %x %x: error %d", a, b, e)
				}
				same(t, "quotient", q, x.q)
				same(t, "remainder", r, x.r)
			}
		}
	}
}

func TestDivMod(t *testing.T) {
	checkDivisions(t, []division{
		{nil, api.Nat{1}, nil, nil},
		{nil, api.Nat{5, 6, 7}, nil, nil},
		{api.Nat{6}, api.Nat{3}, api.Nat{2}, nil},
		{api.Nat{7}, api.Nat{2}, api.Nat{3}, api.Nat{1}},
		{api.Nat{7}, api.Nat{7}, api.Nat{1}, nil},
		{api.Nat{7, 8, 9}, api.Nat{1}, api.Nat{7, 8, 9}, nil},
		{api.Nat{0, 1}, api.Nat{top}, api.Nat{1}, api.Nat{1}},
		{api.Nat{top, top}, api.Nat{top}, api.Nat{1, 1}, nil},
		{api.Nat{1, 2, 3}, api.Nat{0, 1}, api.Nat{2, 3}, api.Nat{1}},
		{api.Nat{1, 2, 3}, api.Nat{1, 2, 3}, api.Nat{1}, nil},
		{api.Nat{2, 2, 3}, api.Nat{1, 2, 3}, api.Nat{1}, api.Nat{1}},
		{api.Nat{0, 0, 0, 1}, api.Nat{1, 1}, api.Nat{0, top}, api.Nat{0, 1}},
		{api.Nat{top, top, top, top}, api.Nat{top, top}, api.Nat{1, 0, 1}, nil},
		{api.Nat{4, 0, 0, 0, 1}, api.Nat{0, 0, 0, 2}, api.Nat{half}, api.Nat{4}},
	})
}

func TestDivModByGreater(t *testing.T) {
	checkDivisions(t, []division{
		{nil, api.Nat{1}, nil, nil},
		{api.Nat{2}, api.Nat{7}, nil, api.Nat{2}},
		{api.Nat{top}, api.Nat{0, 1}, nil, api.Nat{top}},
		{api.Nat{top, top}, api.Nat{0, 0, 1}, nil, api.Nat{top, top}},
		{api.Nat{1, 2, 3}, api.Nat{2, 2, 3}, nil, api.Nat{1, 2, 3}},
		{api.Nat{top, top, 3}, api.Nat{0, 0, 4}, nil, api.Nat{top, top, 3}},
	})
}

// Estimates that dividing by the last limb of the divisor alone makes too great: by 1 or by 2,
// with or without a limb before it that shows this, and up to 2^32 + 1.
func TestDivModCorrects(t *testing.T) {
	checkDivisions(t, []division{
		// corrected once
		{api.Nat{0, 0, 0, half}, api.Nat{1, 0, half}, api.Nat{top}, api.Nat{1, top, half - 1}},
		// corrected twice
		{api.Nat{0, 0, half - 1}, api.Nat{top, half}, api.Nat{top - 3}, api.Nat{top - 3, 4}},
		{api.Nat{0, top - 1, half}, api.Nat{top, half}, api.Nat{top}, api.Nat{top, half - 1}},
		{api.Nat{top - 1, 1, 2, half + 1}, api.Nat{half + 1, top - 1, half + 1}, api.Nat{top - 1}, api.Nat{0, half - 2, 7}},
		// given back
		{api.Nat{3, 0, half}, api.Nat{1, 0, 1 << 29}, api.Nat{3}, api.Nat{0, 0, 1 << 29}},
		{api.Nat{0, 0, half, half - 1}, api.Nat{1, 0, half}, api.Nat{top - 1}, api.Nat{2, top, half - 1}},
		{api.Nat{0, top - 1, 0, half}, api.Nat{top, 0, half}, api.Nat{top}, api.Nat{top, top, half - 1}},
		// corrected once, and given back
		{api.Nat{2, 0, 0, half + 1}, api.Nat{top - 1, half + 1, half + 1}, api.Nat{top - 1}, api.Nat{top - 1, 5, half + 1}},
		{api.Nat{half + 1, 2, half, half - 1}, api.Nat{top, half + 1, half}, api.Nat{top - 2}, api.Nat{half - 2, half + 9, half - 1}},
	})
}

func TestShort(t *testing.T) {
	for _, x := range []struct {
		a api.Nat
		d uint32
		q api.Nat
		r uint32
	}{
		{nil, 1, nil, 0},
		{nil, top, nil, 0},
		{api.Nat{7}, 1, api.Nat{7}, 0},
		{api.Nat{7}, 2, api.Nat{3}, 1},
		{api.Nat{7}, 7, api.Nat{1}, 0},
		{api.Nat{7}, 8, nil, 7},
		{api.Nat{7, 8, 9}, 1, api.Nat{7, 8, 9}, 0},
		{api.Nat{0, 1}, 2, api.Nat{half}, 0},
		{api.Nat{top, top, top}, top, api.Nat{1, 1, 1}, 0},
		{api.Nat{top - 1, top - 1}, top, api.Nat{top}, top - 2},
		{api.Nat{0, 0, 0, 1}, 10, api.Nat{0x99999999, 0x99999999, 0x19999999}, 6},
	} {
		for _, a := range []api.Nat{x.a, long(x.a)} {
			q, r, e := quo.Short(a, x.d)
			if e != api.OK || r != x.r {
				t.Errorf("Short %x %x: remainder %x, error %d", a, x.d, r, e)
			}
			same(t, "quotient", q, x.q)
		}
	}
}

func TestDivisionByZero(t *testing.T) {
	for _, a := range []api.Nat{nil, {0, 0}, {1}, {5, 6, 7}, {5, 6, 7, 0}} {
		for _, b := range []api.Nat{nil, {}, {0}, {0, 0, 0}} {
			if q, r, e := quo.DivMod(a, b); e != api.ErrZero || len(q) != 0 || len(r) != 0 {
				t.Errorf("DivMod %x %x: %x %x, error %d", a, b, q, r, e)
			}
		}
		if q, r, e := quo.Short(a, 0); e != api.ErrZero || len(q) != 0 || r != 0 {
			t.Errorf("Short %x 0: %x %x, error %d", a, q, r, e)
		}
	}
}

// P2.2

func TestGcd(t *testing.T) {
	for _, x := range []struct{ a, b, want api.Nat }{
		{nil, nil, nil},
		{api.Nat{0, 0}, api.Nat{0}, nil},
		{nil, api.Nat{5}, api.Nat{5}},
		{nil, api.Nat{1, 2, 3}, api.Nat{1, 2, 3}},
		{api.Nat{1}, api.Nat{1, 2, 3}, api.Nat{1}},
		{api.Nat{12}, api.Nat{18}, api.Nat{6}},
		{api.Nat{12}, api.Nat{35}, api.Nat{1}},
		{api.Nat{12}, api.Nat{36}, api.Nat{12}},
		{api.Nat{9, 9}, api.Nat{9, 9}, api.Nat{9, 9}},
		{api.Nat{0, half}, api.Nat{half}, api.Nat{half}},
		{api.Nat{0, 0, 0, 6}, api.Nat{0, 0, 9}, api.Nat{0, 0, 3}},
		{api.Nat{0, 0, 0, 6}, api.Nat{10}, api.Nat{2}},
		{api.Nat{7, 7, 7, 7}, api.Nat{7, 7}, api.Nat{7, 7}},
		{api.Nat{top, top, top}, api.Nat{top, top}, api.Nat{top}},
	} {
		for _, a := range []api.Nat{x.a, long(x.a)} {
			for _, b := range []api.Nat{x.b, long(x.b)} {
				same(t, "Gcd", quo.Gcd(a, b), x.want)
				same(t, "Gcd, turned round", quo.Gcd(b, a), x.want)
			}
		}
	}
}

func TestDivides(t *testing.T) {
	for _, x := range []struct {
		a, b api.Nat
		want bool
	}{
		{nil, nil, true},
		{nil, api.Nat{1}, false},
		{nil, api.Nat{1, 2, 3}, false},
		{api.Nat{1}, nil, true},
		{api.Nat{1, 2, 3}, nil, true},
		{api.Nat{1}, api.Nat{5, 6}, true},
		{api.Nat{3}, api.Nat{9}, true},
		{api.Nat{9}, api.Nat{3}, false},
		{api.Nat{9}, api.Nat{10}, false},
		{api.Nat{5, 6}, api.Nat{5, 6}, true},
		{api.Nat{5, 6}, api.Nat{10, 12}, true},
		{api.Nat{5, 6}, api.Nat{11, 12}, false},
		{api.Nat{10, 12}, api.Nat{5, 6}, false},
		{api.Nat{0, 2}, api.Nat{0, 0, 4}, true},
		{api.Nat{0, 3}, api.Nat{0, 0, 4}, false},
	} {
		for _, a := range []api.Nat{x.a, long(x.a)} {
			for _, b := range []api.Nat{x.b, long(x.b)} {
				if quo.Divides(a, b) != x.want {
					t.Errorf("Divides %x %x: not %t", a, b, x.want)
				}
			}
		}
	}
}

// P2.3

func TestPow(t *testing.T) {
	for _, x := range []struct {
		a    api.Nat
		n    int
		want api.Nat
	}{
		{nil, 0, api.Nat{1}},
		{nil, -1, api.Nat{1}},
		{nil, math.MinInt, api.Nat{1}},
		{nil, 1, nil},
		{nil, 5, nil},
		{nil, math.MaxInt, nil},
		{api.Nat{1}, 1000, api.Nat{1}},
		{api.Nat{1}, math.MaxInt, api.Nat{1}},
		{api.Nat{7}, 0, api.Nat{1}},
		{api.Nat{7}, -1, api.Nat{1}},
		{api.Nat{7, 8}, -64, api.Nat{1}},
		{api.Nat{7, 8}, math.MinInt, api.Nat{1}},
		{api.Nat{7}, 1, api.Nat{7}},
		{api.Nat{7, 8}, 1, api.Nat{7, 8}},
		{api.Nat{7}, 3, api.Nat{343}},
		{api.Nat{10}, 9, api.Nat{1000000000}},
		{api.Nat{10}, 10, api.Nat{1410065408, 2}},
		{api.Nat{2}, 31, api.Nat{half}},
		{api.Nat{2}, 64, api.Nat{0, 0, 1}},
		{api.Nat{0, 1}, 5, api.Nat{0, 0, 0, 0, 0, 1}},
		{api.Nat{top}, 2, api.Nat{1, top - 1}},
	} {
		same(t, "Pow", quo.Pow(x.a, x.n), x.want)
		same(t, "Pow with zero limbs", quo.Pow(long(x.a), x.n), x.want)
	}
}

func TestPowGrows(t *testing.T) {
	for _, a := range []api.Nat{{2}, {3}, {top}, {5, 6}} {
		want := nat.Of(1)
		for n := range 70 {
			same(t, "Pow", quo.Pow(a, n), want)
			want = nat.Mul(want, a)
		}
	}
}

func TestExamples(t *testing.T) {
	q, r, e := quo.DivMod(api.Nat{0, 0, 1}, api.Nat{3})
	if e != api.OK {
		t.Errorf("DivMod: error %d", e)
	}
	same(t, "2^64 by 3", q, nat.Of(6148914691236517205))
	same(t, "its remainder", r, api.Nat{1})
	same(t, "Gcd of 12 and 18", quo.Gcd(nat.Of(12), nat.Of(18)), nat.Of(6))
	same(t, "Gcd of 0 and 5", quo.Gcd(nil, nat.Of(5)), nat.Of(5))
	same(t, "0 to the power of 0", quo.Pow(nil, 0), nat.Of(1))
	same(t, "7 to the power of 3", quo.Pow(nat.Of(7), 3), nat.Of(343))
}
