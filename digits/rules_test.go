package digits_test

import (
	"slices"
	"strings"
	"testing"

	"fluxion/api"
	"fluxion/digits"
	"fluxion/rat"
)

// roomy returns limbs with spare capacity behind them, so that an append to an argument shows.
func roomy(a api.Nat) api.Nat {
	r := make(api.Nat, len(a), len(a)+3)
	copy(r, a)
	for i := len(a); i < cap(r); i++ {
		whole(r)[i] = 0xABCDABCD
	}
	return r
}

func whole(a api.Nat) api.Nat { return a[:cap(a)] }

func fill(a api.Nat) {
	for i := range whole(a) {
		whole(a)[i] = ^whole(a)[i]
	}
}

func checkStays(t *testing.T, what string, now, before api.Nat) {
	t.Helper()
	if !slices.Equal(now, before) {
		t.Errorf("%s: %x, before %x", what, now, before)
	}
}

func TestArgumentsStay(t *testing.T) {
	for _, x := range rationals(200) {
		a, b := roomy(x.Num), roomy(x.Den)
		beforeA, beforeB := slices.Clone(whole(a)), slices.Clone(whole(b))
		digits.Nat(a)
		digits.Count(b)
		digits.Rat(api.Rat{Neg: x.Neg, Num: a, Den: b})
		checkStays(t, "an argument is changed", whole(a), beforeA)
		checkStays(t, "an argument is changed", whole(b), beforeB)
	}
}

func TestStringsOutliveArguments(t *testing.T) {
	for _, x := range rationals(200) {
		a, b := roomy(x.Num), roomy(x.Den)
		natural, rational := digits.Nat(a), digits.Rat(api.Rat{Neg: x.Neg, Num: a, Den: b})
		fill(a)
		fill(b)
		if natural != digits.Nat(x.Num) || rational != digits.Rat(x) {
			t.Errorf("strings of %v change with it: %q %q", x, short(natural), short(rational))
		}
	}
}

func TestParsedNumbersAreNewMemory(t *testing.T) {
	for _, a := range naturals(200) {
		s := digits.Nat(a)
		first, _ := digits.ParseNat(s)
		before := slices.Clone(whole(first))
		second, _ := digits.ParseNat(s)
		fill(second)
		checkStays(t, "ParseNat shares memory", whole(first), before)
		checkParseNat(t, s, before[:len(first)])
	}
}

// Each side of a number is filled in turn: nothing else may change.
func TestParsedSidesAreNewMemory(t *testing.T) {
	for _, x := range rationals(200) {
		s := digits.Rat(x)
		first, _ := digits.ParseRat(s)
		num, den := slices.Clone(whole(first.Num)), slices.Clone(whole(first.Den))
		second, _ := digits.ParseRat(s)
		fill(second.Num)
		checkStays(t, "ParseRat shares memory", whole(first.Num), num)
		checkStays(t, "ParseRat shares memory", whole(second.Den), den)
		fill(second.Den)
		checkStays(t, "ParseRat shares memory", whole(first.Num), num)
		checkStays(t, "ParseRat shares memory", whole(first.Den), den)
		checkParseRat(t, s, first)
	}
}

func TestOneSliceOnBothSides(t *testing.T) {
	for _, a := range naturals(100) {
		want := "1"
		if len(a) == 0 || digits.Nat(a) == "0" {
			want = "0"
		}
		checkRat(t, api.Rat{Num: a, Den: a}, want)
	}
}

// P0.7

func TestAllCallsEnd(t *testing.T) {
	odd := []api.Nat{nil, {}, {0}, make(api.Nat, 1000), {1}, append(api.Nat{1}, make(api.Nat, 1000)...), {top, top}}
	for _, a := range odd {
		if s := digits.Nat(a); digits.Count(a) != len(s) {
			t.Errorf("Count %x: %d", a, digits.Count(a))
		}
		for _, b := range odd {
			for _, neg := range []bool{false, true} {
				x := api.Rat{Neg: neg, Num: a, Den: b}
				if r, e := digits.ParseRat(digits.Rat(x)); e != api.OK || !rat.Same(r, x) {
					t.Errorf("ParseRat of Rat %v: %v, error %d", x, r, e)
				}
			}
		}
	}
}

// A number that is far too long must be refused without being worked out.
func TestVeryLongStringsEnd(t *testing.T) {
	many := strings.Repeat("9", 20_000_000)
	refuseNat(t, many, api.ErrLimit)
	refuseNat(t, many+"-", api.ErrSyntax)
	refuseNat(t, "0"+many, api.ErrSyntax)
	refuseRat(t, api.ErrLimit, many, "-"+many, many+"/"+many, "1/"+many, many+"/0")
	refuseRat(t, api.ErrSyntax, many+"/", "/"+many, many+"/1/", strings.Repeat("/", 20_000_000), strings.Repeat("-", 20_000_000))
}

func TestManyLimbs(t *testing.T) {
	a := make(api.Nat, 1500)
	for i := range a {
		a[i] = top - uint32(i%7)
	}
	checkNat(t, a, toInt(a).String())
	x := api.Rat{Neg: true, Num: a[:900], Den: a[300:1100]}
	checkRat(t, x, toBig(x).RatString())
}
