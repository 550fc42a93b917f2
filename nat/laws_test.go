package nat_test

import (
	"math/big"
	"math/rand/v2"
	"slices"
	"testing"

	"fluxion/api"
	"fluxion/nat"
)

// samples returns numbers of all lengths up to 12 limbs, many of them with limbs that make
// carries run far, some with zero limbs at the end; they are the same in every run.
func samples(n int) []api.Nat {
	r := rand.New(rand.NewPCG(1, uint64(n)))
	list := []api.Nat{nil, {}, {0}, {1}, {1, 0}, {top}, {top, top}, {0, 1}, {0, 0, 1, 0, 0}}
	for len(list) < n {
		a := make(api.Nat, r.IntN(13))
		for i := range a {
			switch r.IntN(4) {
			case 0:
				a[i] = top
			case 1:
				a[i] = 0
			default:
				a[i] = r.Uint32()
			}
		}
		list = append(list, a)
	}
	return list
}

// toBig is the oracle's reading of the limbs.
func toBig(a api.Nat) *big.Int {
	b := new(big.Int)
	for _, x := range slices.Backward(a) {
		b.Lsh(b, 32).Or(b, big.NewInt(int64(x)))
	}
	return b
}

func agree(t *testing.T, call string, got api.Nat, want *big.Int) {
	t.Helper()
	if toBig(got).Cmp(want) != 0 {
		t.Errorf("%s: got %x, want %x", call, got, want)
	}
	if len(got) > 0 && got[len(got)-1] == 0 {
		t.Errorf("%s: zero limbs at the end of %x", call, got)
	}
}

func TestPairsAgree(t *testing.T) {
	list := samples(120)
	for _, a := range list {
		for _, b := range list {
			x, y := toBig(a), toBig(b)
			agree(t, "Add", nat.Add(a, b), new(big.Int).Add(x, y))
			agree(t, "Mul", nat.Mul(a, b), new(big.Int).Mul(x, y))
			if c := nat.Cmp(a, b); c != x.Cmp(y) {
				t.Errorf("Cmp %x %x: %d", a, b, c)
			}
			d, e := nat.Sub(a, b)
			if x.Cmp(y) < 0 {
				if e != api.ErrBelow || len(d) != 0 {
					t.Errorf("Sub %x %x: %x, error %d", a, b, d, e)
				}
				continue
			}
			if e != api.OK {
				t.Errorf("Sub %x %x: error %d", a, b, e)
			}
			agree(t, "Sub", d, new(big.Int).Sub(x, y))
		}
	}
}

func TestSinglesAgree(t *testing.T) {
	for _, a := range samples(300) {
		x := toBig(a)
		agree(t, "Trim", nat.Trim(a), x)
		if n := nat.Bits(a); n != x.BitLen() {
			t.Errorf("Bits %x: %d", a, n)
		}
		n, is := nat.Uint(a)
		if is != x.IsUint64() || is && n != x.Uint64() || !is && n != 0 {
			t.Errorf("Uint %x: %d %t", a, n, is)
		}
		for i := range 400 {
			if nat.Bit(a, i) != (x.Bit(i) == 1) {
				t.Errorf("Bit %d of %x: %t", i, a, nat.Bit(a, i))
			}
		}
		for i := -3; i < 400; i += 3 {
			by := uint(max(i, 0))
			agree(t, "Shl", nat.Shl(a, i), new(big.Int).Lsh(x, by))
			agree(t, "Shr", nat.Shr(a, i), new(big.Int).Rsh(x, by))
		}
	}
}

// P1.4

func TestLaws(t *testing.T) {
	list := samples(28)
	for _, a := range list {
		for _, b := range list {
			same(t, "a+b, b+a", nat.Add(a, b), nat.Add(b, a))
			same(t, "a*b, b*a", nat.Mul(a, b), nat.Mul(b, a))
			d, e := nat.Sub(nat.Add(a, b), b)
			if e != api.OK {
				t.Errorf("Sub of %x from a sum: error %d", b, e)
			}
			same(t, "a+b-b, a", d, nat.Trim(a))
			for _, c := range list {
				same(t, "(a+b)+c, a+(b+c)", nat.Add(nat.Add(a, b), c), nat.Add(a, nat.Add(b, c)))
				same(t, "(a*b)*c, a*(b*c)", nat.Mul(nat.Mul(a, b), c), nat.Mul(a, nat.Mul(b, c)))
				same(t, "a*(b+c), a*b+a*c", nat.Mul(a, nat.Add(b, c)), nat.Add(nat.Mul(a, b), nat.Mul(a, c)))
			}
		}
	}
}

func TestShiftsAreProducts(t *testing.T) {
	for _, a := range samples(40) {
		power := nat.Of(1)
		for n := range 130 {
			same(t, "Shl", nat.Shl(a, n), nat.Mul(a, power))
			same(t, "Shr of Shl", nat.Shr(nat.Shl(a, n), n), nat.Trim(a))
			power = nat.Add(power, power)
		}
	}
}
