package digits_test

import (
	"math"
	"math/big"
	"slices"
	"strings"
	"testing"

	"fluxion/api"
	"fluxion/digits"
)

const top = math.MaxUint32

func noughts(n int) string { return strings.Repeat("0", n) }

// power returns the digits of 2^n plus a number.
func power(n uint, plus int64) string {
	b := new(big.Int).Lsh(big.NewInt(1), n)
	return b.Add(b, big.NewInt(plus)).String()
}

// greatest has MaxLimbs limbs, and tooLong one more.
func greatest() string { return power(32*api.MaxLimbs, -1) }
func tooLong() string  { return power(32*api.MaxLimbs, 0) }

func long(a api.Nat) api.Nat { return append(slices.Clone(a), 0, 0, 0) }

func alike(x, y api.Rat) bool {
	return x.Neg == y.Neg && slices.Equal(x.Num, y.Num) && slices.Equal(x.Den, y.Den)
}

// short keeps the messages about long strings readable.
func short(s string) string {
	if len(s) > 60 {
		return s[:30] + ".." + s[len(s)-30:]
	}
	return s
}

func checkNat(t *testing.T, a api.Nat, want string) {
	t.Helper()
	for _, x := range []api.Nat{a, long(a)} {
		if s := digits.Nat(x); s != want {
			t.Errorf("Nat %x: %q, want %q", x, short(s), short(want))
		}
		if n := digits.Count(x); n != len(want) {
			t.Errorf("Count %x: %d, want %d", x, n, len(want))
		}
	}
}

func checkParseNat(t *testing.T, s string, want api.Nat) {
	t.Helper()
	if a, e := digits.ParseNat(s); e != api.OK || !slices.Equal(a, want) {
		t.Errorf("ParseNat %q: %x, error %d, want %x", short(s), a, e, want)
	}
}

func refuseNat(t *testing.T, s string, want api.Errno) {
	t.Helper()
	if a, e := digits.ParseNat(s); e != want || len(a) != 0 {
		t.Errorf("ParseNat %q: %x, error %d, want error %d", short(s), a, e, want)
	}
}

func checkRat(t *testing.T, r api.Rat, want string) {
	t.Helper()
	if s := digits.Rat(r); s != want {
		t.Errorf("Rat %v: %q, want %q", r, short(s), short(want))
	}
}

func checkParseRat(t *testing.T, s string, want api.Rat) {
	t.Helper()
	if r, e := digits.ParseRat(s); e != api.OK || !alike(r, want) {
		t.Errorf("ParseRat %q: %v, error %d, want %v", short(s), r, e, want)
	}
}

func refuseRat(t *testing.T, want api.Errno, list ...string) {
	t.Helper()
	for _, s := range list {
		if r, e := digits.ParseRat(s); e != want || r.Neg || len(r.Num) != 0 || len(r.Den) != 0 {
			t.Errorf("ParseRat %q: %v, error %d, want error %d", short(s), r, e, want)
		}
	}
}

// P4.1

func TestNaturalNumbers(t *testing.T) {
	for _, x := range []struct {
		a api.Nat
		s string
	}{
		{nil, "0"},
		{api.Nat{1}, "1"},
		{api.Nat{9}, "9"},
		{api.Nat{10}, "10"},
		{api.Nat{1234567890}, "1234567890"},
		{api.Nat{top}, "4294967295"},
		{api.Nat{0, 1}, "4294967296"},
		{api.Nat{top, top}, "18446744073709551615"},
		{api.Nat{0, 0, 1}, "18446744073709551616"},
		{api.Nat{top, top, top, top}, "340282366920938463463374607431768211455"},
	} {
		checkNat(t, x.a, x.s)
		checkParseNat(t, x.s, x.a)
	}
}

func TestBlocksOfNine(t *testing.T) {
	for _, x := range []struct {
		a api.Nat
		s string
	}{
		{api.Nat{99999999}, "99999999"},
		{api.Nat{100000000}, "100000000"},
		{api.Nat{999999999}, "999999999"},
		{api.Nat{1000000000}, "1" + noughts(9)},
		{api.Nat{1000000001}, "1000000001"},
		{api.Nat{1012345678}, "1012345678"},
		{api.Nat{0x540BE407, 2}, "10000000007"},
		{api.Nat{0xA763FFFF, 0xDE0B6B3}, "999999999999999999"},
		{api.Nat{0xA7640000, 0xDE0B6B3}, "1" + noughts(18)},
		{api.Nat{0xA7640005, 0xDE0B6B3}, "1000000000000000005"},
		{api.Nat{0xE2FEC9FF, 0xDE0B6B3}, "1000000000999999999"},
		{api.Nat{1661992960, 1808227885, 5}, "1" + noughts(20)},
	} {
		checkNat(t, x.a, x.s)
		checkParseNat(t, x.s, x.a)
	}
}

// Every length meets every remainder by nine, with noughts and nines in all places.
func TestAllLengths(t *testing.T) {
	for n := range 300 {
		for _, s := range []string{"1" + noughts(n), "1" + noughts(n) + "1", strings.Repeat("9", n+1), "7" + noughts(n/2) + "8" + noughts(n-n/2)} {
			checkParseNat(t, s, fromInt(integer(s)))
			checkNat(t, fromInt(integer(s)), s)
		}
	}
}

func TestZeroLimbsAlone(t *testing.T) {
	for _, a := range []api.Nat{nil, {}, {0}, {0, 0}, make(api.Nat, 100)} {
		checkNat(t, a, "0")
	}
	checkNat(t, api.Nat{5, 0, 0}, "5")
	checkNat(t, api.Nat{0, 1, 0}, "4294967296")
}

func TestMoreThanMaxLimbsHaveDigits(t *testing.T) {
	for _, n := range []uint{32 * api.MaxLimbs, 32*api.MaxLimbs + 1, 4000, 32000} {
		b := new(big.Int).Lsh(big.NewInt(1), n)
		checkNat(t, fromInt(b), b.String())
	}
}

func TestParseNatSyntax(t *testing.T) {
	refuseNat(t, "", api.ErrSyntax)
	for _, s := range []string{"-", "+", "/", " ", "-1", "+1", "--1", " 1", "1 ", "1 2", "1x", "x1", "1/2", "1/1", "1.5", "1e3", "1_000", "1,0", "0x1", "-0", "1\n", "1\x00"} {
		refuseNat(t, s, api.ErrSyntax)
	}
	for _, s := range []string{"00", "01", "007", "0000000000", "01234567890", noughts(100), noughts(8) + "1", noughts(9) + "1", "0" + noughts(1000) + "1"} {
		refuseNat(t, s, api.ErrSyntax)
	}
	for _, s := range []string{"٣", "3٣", "１", "1１", "²", "½", "\x80", "1\xff", "\xb1", "1\xb01"} {
		refuseNat(t, s, api.ErrSyntax)
	}
}

func TestParseNatBytes(t *testing.T) {
	for c := range 256 {
		if '0' <= c && c <= '9' {
			continue
		}
		b := string([]byte{byte(c)})
		for _, s := range []string{b, b + "1", "1" + b, "1" + b + "2", "123456789" + b, "123456789" + b + "1", b + noughts(9), b + tooLong(), tooLong() + b} {
			refuseNat(t, s, api.ErrSyntax)
		}
	}
}

func TestParseNatLimit(t *testing.T) {
	most := make(api.Nat, api.MaxLimbs)
	for i := range most {
		most[i] = top
	}
	checkParseNat(t, greatest(), most)
	checkNat(t, most, greatest())
	checkParseNat(t, "1"+noughts(308), fromInt(integer("1"+noughts(308))))
	for _, s := range []string{tooLong(), power(32*api.MaxLimbs, 1), "2" + noughts(308), "1" + noughts(309), strings.Repeat("9", 309), strings.Repeat("9", 5000), "1" + noughts(100000)} {
		refuseNat(t, s, api.ErrLimit)
		refuseNat(t, "0"+s, api.ErrSyntax)
		refuseNat(t, s+"x", api.ErrSyntax)
		refuseNat(t, "-"+s, api.ErrSyntax)
	}
}

// P4.2

func TestRationalNumbers(t *testing.T) {
	for _, x := range []struct {
		r api.Rat
		s string
	}{
		{api.Rat{Den: api.Nat{1}}, "0"},
		{api.Rat{Num: api.Nat{1}, Den: api.Nat{1}}, "1"},
		{api.Rat{Num: api.Nat{7}, Den: api.Nat{1}}, "7"},
		{api.Rat{Num: api.Nat{7}, Den: api.Nat{1}, Neg: true}, "-7"},
		{api.Rat{Num: api.Nat{3}, Den: api.Nat{4}}, "3/4"},
		{api.Rat{Num: api.Nat{3}, Den: api.Nat{4}, Neg: true}, "-3/4"},
		{api.Rat{Num: api.Nat{1}, Den: api.Nat{10}}, "1/10"},
		{api.Rat{Num: api.Nat{11}, Den: api.Nat{10}, Neg: true}, "-11/10"},
		{api.Rat{Num: api.Nat{1000000000}, Den: api.Nat{1000000001}}, "1000000000/1000000001"},
		{api.Rat{Num: api.Nat{0, 0, 1}, Den: api.Nat{1}}, "18446744073709551616"},
		{api.Rat{Num: api.Nat{1}, Den: api.Nat{0, 0, 1}, Neg: true}, "-1/18446744073709551616"},
		{api.Rat{Num: api.Nat{1}, Den: api.Nat{1, 1}}, "1/4294967297"},
	} {
		checkRat(t, x.r, x.s)
		checkParseRat(t, x.s, x.r)
	}
}

func TestRatOfInvalid(t *testing.T) {
	for _, x := range []struct {
		r api.Rat
		s string
	}{
		{api.Rat{}, "0"},
		{api.Rat{Neg: true}, "0"},
		{api.Rat{Neg: true, Den: api.Nat{1}}, "0"},
		{api.Rat{Neg: true, Num: api.Nat{0}, Den: api.Nat{5, 0}}, "0"},
		{api.Rat{Neg: true, Num: api.Nat{5}}, "0"},
		{api.Rat{Num: api.Nat{5, 6}, Den: api.Nat{0, 0}}, "0"},
		{api.Rat{Num: api.Nat{2}, Den: api.Nat{4}}, "1/2"},
		{api.Rat{Num: api.Nat{6, 0}, Den: api.Nat{4}, Neg: true}, "-3/2"},
		{api.Rat{Num: api.Nat{6}, Den: api.Nat{4, 0, 0}, Neg: true}, "-3/2"},
		{api.Rat{Num: api.Nat{6}, Den: api.Nat{3}}, "2"},
		{api.Rat{Num: api.Nat{9}, Den: api.Nat{9, 0}, Neg: true}, "-1"},
		{api.Rat{Num: api.Nat{7, 0}, Den: api.Nat{1, 0}}, "7"},
		{api.Rat{Num: api.Nat{0, 0, 2}, Den: api.Nat{0, 0, 6, 0}}, "1/3"},
	} {
		checkRat(t, x.r, x.s)
	}
}

func TestParseRatSyntax(t *testing.T) {
	refuseRat(t, api.ErrSyntax, "", "-", "+", "--", " ", "x", "-x")
	refuseRat(t, api.ErrSyntax, "+1", "--1", "1-", "-+1", "+-1", "- 1", " -1", "-1-", "1-2", "1/+2", "1/-2", "-1/-2", "1-/2", "1/2-")
	refuseRat(t, api.ErrSyntax, "/", "-/", "//", "1/", "-1/", "/2", "-/2", "0/", "/0", "1//2", "1/2/", "/1/2", "1/2/3", "1/1/1", "-1/2/3", "1/2//")
	refuseRat(t, api.ErrSyntax, "00", "01", "-01", "-00", "007", "01/2", "-01/2", "1/02", "1/00", "00/2", "0/00", "00/00", "1/01", "0/01")
	refuseRat(t, api.ErrSyntax, "1x", "1/x", "1/2x", "x/2", " 1/2", "1 /2", "1/ 2", "1/2 ", "1.5", "1/2.0", "1e3", "1/0x2", "½", "٣/4", "3/٤", "1/2\n")
}

func TestParseRatBytes(t *testing.T) {
	for c := range 256 {
		if '0' <= c && c <= '9' {
			continue
		}
		b := string([]byte{byte(c)})
		refuseRat(t, api.ErrSyntax, b, "-"+b, "1"+b, "1/"+b, b+"/2", "1/2"+b, "1/"+b+"2", "1"+b+"/2", "1/1"+b+"2", "1"+b+"1/2", "-"+b+"1", "-1/2"+b, "2/4"+b, b+"/"+tooLong(), "1/"+b+tooLong())
		if c != '-' {
			refuseRat(t, api.ErrSyntax, b+"1", b+"1/2", b+tooLong())
		}
		if c != '/' {
			refuseRat(t, api.ErrSyntax, "1"+b+"2", "-1"+b+"2", tooLong()+b+"1")
		}
	}
}

func TestParseRatLimit(t *testing.T) {
	for _, many := range []string{tooLong(), "1" + noughts(309), strings.Repeat("9", 5000)} {
		refuseRat(t, api.ErrLimit, many, "-"+many, many+"/3", "1/"+many, "-1/"+many, many+"/"+greatest(), greatest()+"/"+many)
		// Written as they are, these are too long before they are anything else.
		refuseRat(t, api.ErrLimit, many+"/0", many+"/1", "-"+many+"/1", many+"/2", "2/"+many, many+"/"+many, "0/"+many, "-0/"+many)
		refuseRat(t, api.ErrSyntax, "0"+many, "--"+many, many+"/", "/"+many, many+"/x", "x/"+many, many+"/02", "02/"+many, many+"/-2", many+"/2/3", "1/0"+many, many+"x/1")
	}
}

func TestParseRatGreatest(t *testing.T) {
	g, below := fromInt(integer(greatest())), fromInt(integer(power(32*api.MaxLimbs, -2)))
	one, two := api.Nat{1}, api.Nat{2}
	checkParseRat(t, greatest(), api.Rat{Num: g, Den: one})
	checkParseRat(t, "-"+greatest(), api.Rat{Neg: true, Num: g, Den: one})
	checkParseRat(t, greatest()+"/2", api.Rat{Num: g, Den: two})
	checkParseRat(t, "2/"+greatest(), api.Rat{Num: two, Den: g})
	checkParseRat(t, "-1/"+greatest(), api.Rat{Neg: true, Num: one, Den: g})
	checkParseRat(t, power(32*api.MaxLimbs, -2)+"/"+greatest(), api.Rat{Num: below, Den: g})
	refuseRat(t, api.ErrRat, greatest()+"/"+greatest(), greatest()+"/1", greatest()+"/0", "0/"+greatest(), "3/"+greatest())
}

func TestParseRatInvalid(t *testing.T) {
	refuseRat(t, api.ErrRat, "1/0", "-1/0", "0/0", "-0/0", "18446744073709551616/0")
	refuseRat(t, api.ErrRat, "1/1", "3/1", "-3/1", "0/1", "18446744073709551616/1")
	refuseRat(t, api.ErrRat, "2/4", "-2/4", "2/2", "-6/3", "6/4", "1000000000/1000000010", "18446744073709551616/4294967296")
	refuseRat(t, api.ErrRat, "-0", "-0/1", "-0/7")
	refuseRat(t, api.ErrRat, "0/2", "0/3", "0/18446744073709551617")
}

func TestExamples(t *testing.T) {
	checkNat(t, api.Nat{0, 1}, "4294967296")
	checkRat(t, api.Rat{Neg: true, Num: api.Nat{3}, Den: api.Nat{4}}, "-3/4")
	checkRat(t, api.Rat{Num: api.Nat{7}, Den: api.Nat{1}}, "7")
	for _, s := range []string{"007", "1x", ""} {
		refuseNat(t, s, api.ErrSyntax)
	}
	refuseRat(t, api.ErrRat, "2/4", "3/1", "-0", "0/3", "1/0")
	refuseRat(t, api.ErrSyntax, "01/2", "1/", "-/2", "1/-2", "+1")
}
