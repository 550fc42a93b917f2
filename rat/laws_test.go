package rat_test

import (
	"math/big"
	"math/rand/v2"
	"slices"
	"testing"

	"fluxion/api"
	"fluxion/rat"
)

// samples returns numbers of up to 6 limbs on each side, most of them not valid; they are the
// same in every run.
func samples(n int) []api.Rat {
	r := rand.New(rand.NewPCG(3, uint64(n)))
	list := append(zeros(), rat.Int(0), rat.Int(1), rat.Int(-1))
	for len(list) < n {
		x := api.Rat{Neg: r.IntN(2) == 0, Num: limbs(r), Den: limbs(r)}
		if r.IntN(3) == 0 {
			x.Num, x.Den = api.Nat{r.Uint32N(20)}, api.Nat{r.Uint32N(20)}
		}
		list = append(list, x)
	}
	return list
}

// limbs makes common factors likely: many limbs are 0, or have few factors.
func limbs(r *rand.Rand) api.Nat {
	a := make(api.Nat, r.IntN(7))
	for i := range a {
		switch r.IntN(4) {
		case 0:
			a[i] = 0
		case 1:
			a[i] = 6 * r.Uint32N(4)
		case 2:
			a[i] = top
		default:
			a[i] = r.Uint32()
		}
	}
	return a
}

func toInt(a api.Nat) *big.Int {
	b := new(big.Int)
	for _, x := range slices.Backward(a) {
		b.Lsh(b, 32).Or(b, big.NewInt(int64(x)))
	}
	return b
}

func fromInt(b *big.Int) api.Nat {
	var a api.Nat
	for rest := new(big.Int).Set(b); rest.Sign() > 0; rest.Rsh(rest, 32) {
		a = append(a, uint32(rest.Uint64()))
	}
	return a
}

// toBig is the oracle's reading of a number: what the document says it counts as.
func toBig(x api.Rat) *big.Rat {
	n, d := toInt(x.Num), toInt(x.Den)
	if d.Sign() == 0 {
		return new(big.Rat)
	}
	if x.Neg {
		n.Neg(n)
	}
	return new(big.Rat).SetFrac(n, d)
}

func fromBig(b *big.Rat) api.Rat {
	return api.Rat{Neg: b.Sign() < 0, Num: fromInt(new(big.Int).Abs(b.Num())), Den: fromInt(b.Denom())}
}

// agree asks for the very limbs, so that a result that is not valid fails too.
func agree(t *testing.T, call string, got api.Rat, want *big.Rat) {
	t.Helper()
	same(t, call, got, fromBig(want))
}

func TestPairsAgree(t *testing.T) {
	list := samples(200)
	for _, x := range list {
		for _, y := range list {
			a, b := toBig(x), toBig(y)
			agree(t, "Add", rat.Add(x, y), new(big.Rat).Add(a, b))
			agree(t, "Sub", rat.Sub(x, y), new(big.Rat).Sub(a, b))
			agree(t, "Mul", rat.Mul(x, y), new(big.Rat).Mul(a, b))
			if c := rat.Cmp(x, y); c != a.Cmp(b) {
				t.Errorf("Cmp %v %v: %d", x, y, c)
			}
			if s := rat.Same(x, y); s != (a.Cmp(b) == 0) {
				t.Errorf("Same %v %v: %t", x, y, s)
			}
			q, e := rat.Div(x, y)
			if b.Sign() == 0 {
				if e != api.ErrZero || !alike(q, api.Rat{}) {
					t.Errorf("Div %v %v: %v, error %d", x, y, q, e)
				}
				continue
			}
			if e != api.OK {
				t.Errorf("Div %v %v: error %d", x, y, e)
			}
			agree(t, "Div", q, new(big.Rat).Quo(a, b))
		}
	}
}

func TestSinglesAgree(t *testing.T) {
	for _, x := range samples(400) {
		b := toBig(x)
		agree(t, "Norm", rat.Norm(x), b)
		agree(t, "Neg", rat.Neg(x), new(big.Rat).Neg(b))
		if s := rat.Sign(x); s != b.Sign() {
			t.Errorf("Sign %v: %d", x, s)
		}
		if n := rat.Bits(x); n != max(b.Num().BitLen(), b.Denom().BitLen()) {
			t.Errorf("Bits %v: %d", x, n)
		}
		if isValid := alike(x, fromBig(b)); (rat.May(x) == api.OK) != isValid {
			t.Errorf("May %v: error %d", x, rat.May(x))
		}
		if m, e := rat.Make(x.Neg, x.Num, x.Den); e == api.OK {
			agree(t, "Make", m, b)
		} else if e != api.ErrZero || toInt(x.Den).Sign() != 0 || !alike(m, api.Rat{}) {
			t.Errorf("Make %v: %v, error %d", x, m, e)
		}
	}
}

func TestPowersAgree(t *testing.T) {
	for _, x := range samples(100) {
		want := big.NewRat(1, 1)
		agree(t, "Pow", rat.Pow(x, -3), want)
		for n := range 18 {
			agree(t, "Pow", rat.Pow(x, n), want)
			want.Mul(want, toBig(x))
		}
	}
}

func TestFracsAgree(t *testing.T) {
	r := rand.New(rand.NewPCG(3, 0))
	for range 2000 {
		p, q := r.Int64()-r.Int64(), r.Int64()-r.Int64()
		if r.IntN(2) == 0 {
			p, q = p%50, q%50
		}
		agree(t, "Int", rat.Int(p), new(big.Rat).SetInt64(p))
		if q == 0 {
			continue
		}
		f, e := rat.Frac(p, q)
		if e != api.OK {
			t.Errorf("Frac %d %d: error %d", p, q, e)
		}
		agree(t, "Frac", f, big.NewRat(p, q))
	}
}

// P3.4

func TestField(t *testing.T) {
	list := samples(36)
	for _, x := range list {
		for _, y := range list {
			same(t, "x+y, y+x", rat.Add(x, y), rat.Add(y, x))
			same(t, "x*y, y*x", rat.Mul(x, y), rat.Mul(y, x))
			same(t, "x+y-y, x", rat.Sub(rat.Add(x, y), y), rat.Norm(x))
			same(t, "x-y, x+(-y)", rat.Sub(x, y), rat.Add(x, rat.Neg(y)))
			if q, e := rat.Div(rat.Mul(x, y), y); rat.Sign(y) != 0 {
				if e != api.OK {
					t.Errorf("Div by %v: error %d", y, e)
				}
				same(t, "x*y/y, x", q, rat.Norm(x))
			}
			for _, z := range list {
				same(t, "(x+y)+z, x+(y+z)", rat.Add(rat.Add(x, y), z), rat.Add(x, rat.Add(y, z)))
				same(t, "(x*y)*z, x*(y*z)", rat.Mul(rat.Mul(x, y), z), rat.Mul(x, rat.Mul(y, z)))
				same(t, "x*(y+z), x*y+x*z", rat.Mul(x, rat.Add(y, z)), rat.Add(rat.Mul(x, y), rat.Mul(x, z)))
			}
		}
	}
}

func TestOrderIsPreserved(t *testing.T) {
	list := samples(36)
	for _, x := range list {
		for _, y := range list {
			c := rat.Cmp(x, y)
			for _, z := range list {
				if d := rat.Cmp(rat.Add(x, z), rat.Add(y, z)); d != c {
					t.Errorf("Cmp %v %v: %d, with %v added %d", x, y, c, z, d)
				}
				if d := rat.Cmp(rat.Mul(x, z), rat.Mul(y, z)); d != c*rat.Sign(z) {
					t.Errorf("Cmp %v %v: %d, times %v %d", x, y, c, z, d)
				}
			}
		}
	}
}

func TestEqualNumbersHaveEqualLimbs(t *testing.T) {
	list := samples(120)
	for _, x := range list {
		for _, y := range list {
			a, b := rat.Norm(x), rat.Norm(y)
			if rat.Same(a, b) != alike(a, b) {
				t.Errorf("Same %v %v: %t", a, b, rat.Same(a, b))
			}
		}
	}
}

func TestExponentsAdd(t *testing.T) {
	for _, x := range samples(40) {
		for m := range 6 {
			for n := range 6 {
				same(t, "x^(m+n), x^m*x^n", rat.Pow(x, m+n), rat.Mul(rat.Pow(x, m), rat.Pow(x, n)))
			}
		}
	}
}
