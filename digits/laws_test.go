package digits_test

import (
	"math/big"
	"math/rand/v2"
	"regexp"
	"slices"
	"strings"
	"testing"

	"fluxion/api"
	"fluxion/digits"
	"fluxion/nat"
	"fluxion/rat"
)

// naturals returns numbers of up to MaxLimbs limbs, some with zero limbs at the end, some
// with many noughts or nines; they are the same in every run.
func naturals(n int) []api.Nat {
	r := rand.New(rand.NewPCG(4, uint64(n)))
	list := []api.Nat{nil, {}, {0}, {1}, {1, 0}, {9}, {10}, {top}, {top, top}, {0, 1}, {0, 0, 1, 0, 0}}
	for len(list) < n {
		a := make(api.Nat, r.IntN(api.MaxLimbs+1))
		for i := range a {
			a[i] = r.Uint32()
			if r.IntN(3) == 0 {
				a[i] = []uint32{0, 1, top}[r.IntN(3)]
			}
		}
		if r.IntN(3) == 0 {
			ten := new(big.Int).Exp(big.NewInt(10), big.NewInt(r.Int64N(300)), nil)
			a = fromInt(ten.Add(ten, big.NewInt(r.Int64N(3)-1)))
		}
		list = append(list, a)
	}
	return list
}

// rationals are valid and others.
func rationals(n int) []api.Rat {
	r := rand.New(rand.NewPCG(5, uint64(n)))
	parts := naturals(n)
	list := []api.Rat{{}, {Neg: true}, {Neg: true, Num: api.Nat{1}}, rat.Int(0), rat.Int(1), rat.Int(-1)}
	for len(list) < n {
		x := api.Rat{Neg: r.IntN(2) == 0, Num: parts[r.IntN(n)], Den: parts[r.IntN(n)]}
		if r.IntN(3) == 0 {
			x.Num, x.Den = api.Nat{r.Uint32N(20)}, api.Nat{r.Uint32N(20)}
		}
		list = append(list, x)
	}
	return list
}

func integer(s string) *big.Int {
	b, ok := new(big.Int).SetString(s, 10)
	if !ok {
		panic(s)
	}
	return b
}

func toInt(a api.Nat) *big.Int {
	b := new(big.Int)
	for _, x := range slices.Backward(a) {
		b.Lsh(b, 32).Or(b, big.NewInt(int64(x)))
	}
	return b
}

func fromInt(b *big.Int) api.Nat {
	var a api.Nat
	for rest := new(big.Int).Set(b); rest.Sign() > 0; rest.Rsh(rest, 32) {
		a = append(a, uint32(new(big.Int).And(rest, big.NewInt(top)).Uint64()))
	}
	return a
}

// toBig is the oracle's reading of a number: what the document says it counts as.
func toBig(x api.Rat) *big.Rat {
	n, d := toInt(x.Num), toInt(x.Den)
	if d.Sign() == 0 {
		return new(big.Rat)
	}
	if x.Neg {
		n.Neg(n)
	}
	return new(big.Rat).SetFrac(n, d)
}

func TestStringsAgree(t *testing.T) {
	for _, a := range naturals(600) {
		want := toInt(a).String()
		checkNat(t, a, want)
		checkParseNat(t, want, nat.Trim(a))
	}
	for _, x := range rationals(600) {
		want := toBig(x).RatString()
		checkRat(t, x, want)
		checkParseRat(t, want, rat.Norm(x))
	}
}

// words returns all strings of up to n of the letters.
func words(letters string, n int) []string {
	list := []string{""}
	for first := 0; n > 0; n-- {
		next := len(list)
		for _, s := range list[first:] {
			for i := range len(letters) {
				list = append(list, s+letters[i:i+1])
			}
		}
		first = next
	}
	return list
}

func wantedNat(s string) api.Errno {
	if !regexp.MustCompile(`^(0|[1-9][0-9]*)$`).MatchString(s) {
		return api.ErrSyntax
	}
	return api.OK
}

func wantedRat(syntax *regexp.Regexp, s string) api.Errno {
	if !syntax.MatchString(s) {
		return api.ErrSyntax
	}
	if b, ok := new(big.Rat).SetString(s); !ok || b.RatString() != s {
		return api.ErrRat
	}
	return api.OK
}

// P4.3

func TestShortStrings(t *testing.T) {
	syntax := regexp.MustCompile(`^-?(0|[1-9][0-9]*)(/(0|[1-9][0-9]*))?$`)
	for _, s := range words("0126-/+", 6) {
		r, e := digits.ParseRat(s)
		if want := wantedRat(syntax, s); e != want {
			t.Fatalf("ParseRat %q: error %d, want %d", s, e, want)
		}
		if e == api.OK && (rat.May(r) != api.OK || digits.Rat(r) != s) {
			t.Fatalf("ParseRat %q: %v, string %q", s, r, digits.Rat(r))
		}
	}
	for _, s := range words("019x", 5) {
		a, e := digits.ParseNat(s)
		if want := wantedNat(s); e != want {
			t.Fatalf("ParseNat %q: error %d, want %d", s, e, want)
		}
		if e == api.OK && digits.Nat(a) != s {
			t.Fatalf("ParseNat %q: %v, string %q", s, a, digits.Nat(a))
		}
	}
}

func TestParseUndoesNat(t *testing.T) {
	for _, a := range naturals(300) {
		s := digits.Nat(a)
		checkParseNat(t, s, nat.Trim(a))
		checkParseRat(t, s, api.Rat{Num: nat.Trim(a), Den: api.Nat{1}})
		for _, more := range []api.Nat{nat.Shl(a, 32*api.MaxLimbs), nat.Add(nat.Shl(a, 40), nat.Shl(nat.Of(1), 32*api.MaxLimbs))} {
			if len(more) > api.MaxLimbs {
				refuseNat(t, digits.Nat(more), api.ErrLimit)
				refuseRat(t, api.ErrLimit, digits.Nat(more))
			}
		}
	}
}

func TestParseUndoesRat(t *testing.T) {
	for _, x := range rationals(300) {
		s := digits.Rat(x)
		r, e := digits.ParseRat(s)
		if e != api.OK || !rat.Same(r, x) || rat.May(r) != api.OK {
			t.Errorf("ParseRat %q: %v, error %d, want %v", short(s), r, e, x)
		}
		if again := digits.Rat(r); again != s {
			t.Errorf("Rat of ParseRat %q: %q", short(s), short(again))
		}
	}
}

func TestEqualNumbersHaveEqualStrings(t *testing.T) {
	list := rationals(120)
	for _, x := range list {
		for _, y := range list {
			if (digits.Rat(x) == digits.Rat(y)) != rat.Same(x, y) {
				t.Errorf("Rat %v %v: %q %q", x, y, digits.Rat(x), digits.Rat(y))
			}
			if (digits.Nat(x.Num) == digits.Nat(y.Den)) != (nat.Cmp(x.Num, y.Den) == 0) {
				t.Errorf("Nat %v %v: %q %q", x.Num, y.Den, digits.Nat(x.Num), digits.Nat(y.Den))
			}
		}
	}
}

func TestCountIsTheLength(t *testing.T) {
	for _, a := range naturals(400) {
		if n, s := digits.Count(a), digits.Nat(a); n != len(s) || strings.Trim(s, "0123456789") != "" {
			t.Errorf("Count %x: %d, digits %q", a, n, short(s))
		}
	}
}
