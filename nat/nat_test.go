package nat_test

import (
	"math"
	"slices"
	"testing"

	"fluxion/api"
	"fluxion/nat"
)

const top = math.MaxUint32

func same(t *testing.T, call string, got, want api.Nat) {
	t.Helper()
	if !slices.Equal(got, want) {
		t.Errorf("%s: got %x, want %x", call, got, want)
	}
}

// P1.1

func TestOf(t *testing.T) {
	for _, x := range []struct {
		n    uint64
		want api.Nat
	}{
		{0, nil},
		{1, api.Nat{1}},
		{top, api.Nat{top}},
		{top + 1, api.Nat{0, 1}},
		{5<<32 + 7, api.Nat{7, 5}},
		{math.MaxUint64, api.Nat{top, top}},
	} {
		same(t, "Of", nat.Of(x.n), x.want)
	}
}

func TestUint(t *testing.T) {
	for _, x := range []struct {
		a    api.Nat
		want uint64
		is   bool
	}{
		{nil, 0, true},
		{api.Nat{0, 0, 0, 0}, 0, true},
		{api.Nat{9}, 9, true},
		{api.Nat{7, 5}, 5<<32 + 7, true},
		{api.Nat{7, 5, 0, 0}, 5<<32 + 7, true},
		{api.Nat{top, top}, math.MaxUint64, true},
		{api.Nat{top, top, 0}, math.MaxUint64, true},
		{api.Nat{0, 0, 1}, 0, false},
		{api.Nat{3, 0, 1, 0}, 0, false},
		{api.Nat{3, 0, 0, 1}, 0, false},
	} {
		if n, is := nat.Uint(x.a); n != x.want || is != x.is {
			t.Errorf("Uint %x: %d %t, want %d %t", x.a, n, is, x.want, x.is)
		}
	}
}

func TestUintUndoesOf(t *testing.T) {
	for i := range 64 {
		for _, n := range []uint64{1 << i, 1<<i - 1, math.MaxUint64 >> i, ^(uint64(1) << i)} {
			if m, is := nat.Uint(nat.Of(n)); m != n || !is {
				t.Errorf("Uint of Of of %d: %d %t", n, m, is)
			}
		}
	}
}

func TestTrim(t *testing.T) {
	for _, x := range []struct{ a, want api.Nat }{
		{nil, nil},
		{api.Nat{}, nil},
		{api.Nat{0}, nil},
		{api.Nat{0, 0, 0}, nil},
		{api.Nat{1}, api.Nat{1}},
		{api.Nat{1, 0}, api.Nat{1}},
		{api.Nat{0, 1, 0, 0}, api.Nat{0, 1}},
		{api.Nat{0, 0, 1}, api.Nat{0, 0, 1}},
		{api.Nat{4, 0, 6, 0}, api.Nat{4, 0, 6}},
	} {
		same(t, "Trim", nat.Trim(x.a), x.want)
	}
}

// P1.2

func TestCmp(t *testing.T) {
	rising := []api.Nat{{}, {1}, {2}, {top}, {0, 1}, {1, 1}, {top, 1}, {0, 2}, {1, 2}, {top, top}, {0, 0, 1}, {1, 0, 1}, {0, 1, 1}}
	for i, a := range rising {
		for j, b := range rising {
			want := 0
			if i < j {
				want = -1
			} else if i > j {
				want = 1
			}
			long := append(slices.Clone(b), 0, 0, 0)
			if c, d, e := nat.Cmp(a, b), nat.Cmp(a, long), nat.Cmp(long, a); c != want || d != want || e != -want {
				t.Errorf("Cmp %x %x: %d, with zero limbs %d and %d, want %d", a, b, c, d, e, want)
			}
		}
	}
}

func TestAdd(t *testing.T) {
	for _, x := range []struct{ a, b, want api.Nat }{
		{nil, nil, nil},
		{api.Nat{0, 0}, api.Nat{0}, nil},
		{api.Nat{3}, nil, api.Nat{3}},
		{api.Nat{3, 0, 0}, api.Nat{4, 0}, api.Nat{7}},
		{api.Nat{top}, api.Nat{1}, api.Nat{0, 1}},
		{api.Nat{top}, api.Nat{top}, api.Nat{top - 1, 1}},
		{api.Nat{top, top, top}, api.Nat{1}, api.Nat{0, 0, 0, 1}},
		{api.Nat{top, 0, top}, api.Nat{1}, api.Nat{0, 1, top}},
		{api.Nat{1, 2, 3}, api.Nat{4}, api.Nat{5, 2, 3}},
	} {
		same(t, "Add", nat.Add(x.a, x.b), x.want)
		same(t, "Add, turned round", nat.Add(x.b, x.a), x.want)
	}
}

func TestSub(t *testing.T) {
	for _, x := range []struct{ a, b, want api.Nat }{
		{nil, nil, nil},
		{nil, api.Nat{0, 0}, nil},
		{api.Nat{5}, api.Nat{5}, nil},
		{api.Nat{5, 0}, api.Nat{5, 0, 0}, nil},
		{api.Nat{5}, api.Nat{2, 0, 0}, api.Nat{3}},
		{api.Nat{5, 6}, nil, api.Nat{5, 6}},
		{api.Nat{5, 6}, api.Nat{4, 6}, api.Nat{1}},
		{api.Nat{0, 1}, api.Nat{1}, api.Nat{top}},
		{api.Nat{0, 0, 0, 1}, api.Nat{1}, api.Nat{top, top, top}},
		{api.Nat{0, 5, 1}, api.Nat{1, 5}, api.Nat{top, top}},
		{api.Nat{1, 0, 1}, api.Nat{2, top}, api.Nat{top}},
	} {
		d, e := nat.Sub(x.a, x.b)
		if e != api.OK {
			t.Errorf("Sub %x %x: error %d", x.a, x.b, e)
		}
		same(t, "Sub", d, x.want)
	}
}

func TestSubBelow(t *testing.T) {
	for _, x := range []struct{ a, b api.Nat }{
		{nil, api.Nat{1}},
		{api.Nat{0, 0, 0}, api.Nat{1}},
		{api.Nat{1}, api.Nat{2}},
		{api.Nat{top}, api.Nat{0, 1}},
		{api.Nat{top, 0, 0}, api.Nat{0, 1}},
		{api.Nat{top, 1}, api.Nat{0, 2}},
		{api.Nat{7, 7, 7}, api.Nat{8, 7, 7, 0}},
	} {
		if d, e := nat.Sub(x.a, x.b); e != api.ErrBelow || len(d) != 0 {
			t.Errorf("Sub %x %x: %x, error %d", x.a, x.b, d, e)
		}
	}
}

func TestMul(t *testing.T) {
	for _, x := range []struct{ a, b, want api.Nat }{
		{nil, nil, nil},
		{nil, api.Nat{1, 2, 3}, nil},
		{api.Nat{0, 0}, api.Nat{1, 2, 3}, nil},
		{api.Nat{1}, api.Nat{1, 2, 3}, api.Nat{1, 2, 3}},
		{api.Nat{6, 0, 0}, api.Nat{7, 0}, api.Nat{42}},
		{api.Nat{top}, api.Nat{top}, api.Nat{1, top - 1}},
		{api.Nat{top, top}, api.Nat{top, top}, api.Nat{1, 0, top - 1, top}},
		{api.Nat{0, 0, 2}, api.Nat{0, 3}, api.Nat{0, 0, 0, 6}},
		{api.Nat{0, 1 << 31}, api.Nat{2}, api.Nat{0, 0, 1}},
		{api.Nat{top, 0, top}, api.Nat{top, top}, api.Nat{1, top, top, top, top - 1}},
	} {
		same(t, "Mul", nat.Mul(x.a, x.b), x.want)
		same(t, "Mul, turned round", nat.Mul(x.b, x.a), x.want)
	}
}

// P1.3

func TestBits(t *testing.T) {
	for _, x := range []struct {
		a    api.Nat
		want int
	}{
		{nil, 0},
		{api.Nat{0, 0}, 0},
		{api.Nat{1}, 1},
		{api.Nat{1, 0, 0}, 1},
		{api.Nat{8}, 4},
		{api.Nat{1 << 31}, 32},
		{api.Nat{0, 1}, 33},
		{api.Nat{top, top, 0}, 64},
		{api.Nat{5, 0, 2}, 66},
	} {
		if n := nat.Bits(x.a); n != x.want {
			t.Errorf("Bits %x: %d, want %d", x.a, n, x.want)
		}
	}
}

func TestBit(t *testing.T) {
	a := api.Nat{1 << 31, 5, 0}
	for i := -70; i < 200; i++ {
		if want := i == 31 || i == 32 || i == 34; nat.Bit(a, i) != want {
			t.Errorf("Bit %d of %x: not %t", i, a, want)
		}
	}
	all := api.Nat{top, top}
	for i := -70; i < 200; i++ {
		if want := 0 <= i && i < 64; nat.Bit(all, i) != want {
			t.Errorf("Bit %d of %x: not %t", i, all, want)
		}
	}
	for _, i := range []int{math.MinInt, -1, 0, 1, 32, math.MaxInt} {
		if nat.Bit(nil, i) || nat.Bit(api.Nat{0, 0}, i) {
			t.Errorf("Bit %d of 0", i)
		}
	}
	if nat.Bit(all, math.MinInt) || nat.Bit(all, math.MaxInt) {
		t.Error("Bit far out")
	}
}

func TestShl(t *testing.T) {
	for _, x := range []struct {
		a    api.Nat
		n    int
		want api.Nat
	}{
		{nil, 100, nil},
		{api.Nat{0, 0}, 33, nil},
		{api.Nat{3}, 0, api.Nat{3}},
		{api.Nat{3, 0, 0}, 0, api.Nat{3}},
		{api.Nat{3}, -1, api.Nat{3}},
		{api.Nat{3, 0}, -64, api.Nat{3}},
		{api.Nat{3, 4}, math.MinInt, api.Nat{3, 4}},
		{api.Nat{1}, 31, api.Nat{1 << 31}},
		{api.Nat{1}, 32, api.Nat{0, 1}},
		{api.Nat{3}, 31, api.Nat{1 << 31, 1}},
		{api.Nat{top, top}, 4, api.Nat{top - 15, top, 15}},
		{api.Nat{top, 1, 0}, 68, api.Nat{0, 0, top - 15, 31}},
		{api.Nat{1}, 96, api.Nat{0, 0, 0, 1}},
	} {
		same(t, "Shl", nat.Shl(x.a, x.n), x.want)
	}
}

func TestShr(t *testing.T) {
	for _, x := range []struct {
		a    api.Nat
		n    int
		want api.Nat
	}{
		{nil, 100, nil},
		{api.Nat{0, 0}, 1, nil},
		{api.Nat{3}, 0, api.Nat{3}},
		{api.Nat{3, 0, 0}, 0, api.Nat{3}},
		{api.Nat{3}, -1, api.Nat{3}},
		{api.Nat{3, 0}, -64, api.Nat{3}},
		{api.Nat{3, 4}, math.MinInt, api.Nat{3, 4}},
		{api.Nat{3}, 1, api.Nat{1}},
		{api.Nat{3}, 2, nil},
		{api.Nat{top, 1}, 32, api.Nat{1}},
		{api.Nat{top, 1}, 33, nil},
		{api.Nat{0, 3}, 31, api.Nat{6}},
		{api.Nat{0, 3}, 33, api.Nat{1}},
		{api.Nat{1, 2, 3}, 64, api.Nat{3}},
		{api.Nat{top, top - 15, 31, 0}, 36, api.Nat{top, 1}},
		{api.Nat{1, 2, 3}, 96, nil},
		{api.Nat{1, 2, 3}, math.MaxInt, nil},
	} {
		same(t, "Shr", nat.Shr(x.a, x.n), x.want)
	}
}

func TestExamples(t *testing.T) {
	same(t, "Add", nat.Add(api.Nat{0xFFFFFFFF}, api.Nat{1}), api.Nat{0, 1})
	same(t, "Mul", nat.Mul(api.Nat{0xFFFFFFFF}, api.Nat{0xFFFFFFFF}), api.Nat{1, 0xFFFFFFFE})
	if d, e := nat.Sub(api.Nat{1}, api.Nat{2}); e != api.ErrBelow || len(d) != 0 {
		t.Errorf("Sub: %x, error %d", d, e)
	}
	if n := nat.Bits(api.Nat{0, 1}); n != 33 {
		t.Errorf("Bits: %d", n)
	}
}
