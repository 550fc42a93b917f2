package quo_test

import (
	"math/big"
	"math/rand/v2"
	"slices"
	"testing"

	"fluxion/api"
	"fluxion/nat"
	"fluxion/quo"
)

// samples returns numbers of all lengths up to 9 limbs, most of them of limbs for which
// estimates are often wrong, some with zero limbs at the end; they are the same in every run.
func samples(n int) []api.Nat {
	r := rand.New(rand.NewPCG(2, uint64(n)))
	edges := []uint32{0, 1, half - 1, half, half + 1, top - 1, top}
	list := []api.Nat{nil, {}, {0}, {1}, {1, 0}, {top}, {top, top}, {0, 1}, {0, 0, 1, 0, 0}}
	for len(list) < n {
		a := make(api.Nat, r.IntN(10))
		for i := range a {
			a[i] = r.Uint32()
			if r.IntN(4) > 0 {
				a[i] = edges[r.IntN(len(edges))]
			}
		}
		list = append(list, a)
	}
	return list
}

// toBig is the oracle's reading of the limbs.
func toBig(a api.Nat) *big.Int {
	b := new(big.Int)
	for _, x := range slices.Backward(a) {
		b.Lsh(b, 32).Or(b, big.NewInt(int64(x)))
	}
	return b
}

func agree(t *testing.T, call string, got api.Nat, want *big.Int) {
	t.Helper()
	if toBig(got).Cmp(want) != 0 {
		t.Errorf("%s: got %x, want %x", call, got, want)
	}
	if len(got) > 0 && got[len(got)-1] == 0 {
		t.Errorf("%s: zero limbs at the end of %x", call, got)
	}
}

func TestDivisionsAgree(t *testing.T) {
	list := samples(500)
	for _, a := range list {
		for _, b := range list {
			x, y := toBig(a), toBig(b)
			if y.Sign() == 0 {
				continue
			}
			q, r, e := quo.DivMod(a, b)
			if e != api.OK {
				t.Errorf("DivMod %x %x: error %d", a, b, e)
			}
			wantQ, wantR := new(big.Int).QuoRem(x, y, new(big.Int))
			agree(t, "quotient", q, wantQ)
			agree(t, "remainder", r, wantR)
		}
	}
}

func TestDivisorsAgree(t *testing.T) {
	list := samples(120)
	for _, a := range list {
		for _, b := range list {
			x, y := toBig(a), toBig(b)
			agree(t, "Gcd", quo.Gcd(a, b), new(big.Int).GCD(nil, nil, x, y))
			want := y.Sign() == 0
			if x.Sign() > 0 {
				want = new(big.Int).Rem(y, x).Sign() == 0
			}
			if quo.Divides(a, b) != want {
				t.Errorf("Divides %x %x: not %t", a, b, want)
			}
		}
	}
}

func TestShortAgrees(t *testing.T) {
	for _, a := range samples(300) {
		for _, d := range []uint32{1, 2, 3, 7, 10, 1000000000, half - 1, half, half + 1, top - 1, top} {
			q, r, e := quo.Short(a, d)
			if e != api.OK {
				t.Errorf("Short %x %x: error %d", a, d, e)
			}
			wantQ, wantR := new(big.Int).QuoRem(toBig(a), big.NewInt(int64(d)), new(big.Int))
			agree(t, "quotient", q, wantQ)
			agree(t, "remainder", nat.Of(uint64(r)), wantR)
		}
	}
}

func TestPowersAgree(t *testing.T) {
	for _, a := range samples(60) {
		for n := -2; n < 40; n++ {
			want := new(big.Int).Exp(toBig(a), big.NewInt(int64(max(n, 0))), nil)
			agree(t, "Pow", quo.Pow(a, n), want)
		}
	}
}

// P2.4

func TestDivisionIsUndone(t *testing.T) {
	list := samples(100)
	for _, a := range list {
		for _, b := range list {
			q, r, e := quo.DivMod(a, b)
			if e != api.OK {
				continue
			}
			same(t, "q*b+r, a", nat.Add(nat.Mul(q, b), r), nat.Trim(a))
			if nat.Cmp(r, b) >= 0 {
				t.Errorf("DivMod %x %x: remainder %x", a, b, r)
			}
		}
	}
}

func TestShortIsDivMod(t *testing.T) {
	for _, a := range samples(100) {
		for _, d := range []uint32{1, 3, 10, half, top} {
			q, r, _ := quo.DivMod(a, api.Nat{d, 0})
			p, s, _ := quo.Short(a, d)
			same(t, "quotient", p, q)
			same(t, "remainder", nat.Of(uint64(s)), r)
		}
	}
}

func TestGcdOfRemainder(t *testing.T) {
	list := samples(70)
	for _, a := range list {
		for _, b := range list {
			g := quo.Gcd(a, b)
			if !quo.Divides(g, a) || !quo.Divides(g, b) {
				t.Errorf("Gcd %x %x: %x doesn't divide both", a, b, g)
			}
			if _, r, e := quo.DivMod(a, b); e == api.OK {
				same(t, "gcd(a,b), gcd(b,r)", g, quo.Gcd(b, r))
			}
			for _, c := range list[:20] {
				same(t, "gcd(ac,bc), gcd(a,b)c", quo.Gcd(nat.Mul(a, c), nat.Mul(b, c)), nat.Mul(g, c))
			}
		}
	}
}

func TestProductsAreDivided(t *testing.T) {
	list := samples(70)
	for _, a := range list {
		for _, b := range list {
			if !quo.Divides(a, nat.Mul(a, b)) {
				t.Errorf("Divides %x and its product with %x", a, b)
			}
			if nat.Bits(a) > 1 && quo.Divides(a, nat.Add(nat.Mul(a, b), nat.Of(1))) {
				t.Errorf("Divides %x and 1 more than its product with %x", a, b)
			}
		}
	}
}

func TestExponentsAdd(t *testing.T) {
	for _, a := range samples(40) {
		for m := range 12 {
			for n := range 12 {
				same(t, "a^(m+n), a^m*a^n", quo.Pow(a, m+n), nat.Mul(quo.Pow(a, m), quo.Pow(a, n)))
			}
		}
	}
}
