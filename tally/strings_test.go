package tally_test

import (
	"math"
	"math/big"
	"strconv"
	"strings"
	"testing"

	"dauber/api"
	"dauber/tally"
)

// P1.1: Parse and String.
func TestParseCanonical(t *testing.T) {
	words := []string{"0", "1", "-1", "9", "10", "-10", "12345678901234567890123456789",
		"9999999999999999999", "10000000000000000000", "10000000000000000001", "-100000000000000000000000000000000000000",
		"18446744073709551615", "18446744073709551616", "9223372036854775807", "-9223372036854775808",
		"1" + strings.Repeat("0", 12041), greatest().String(), "-" + greatest().String()}
	for _, s := range words {
		a, e := tally.Parse(s)
		expectInt(t, "Parse", a, e, s)
		if want := strings.HasPrefix(s, "-"); (a.Sign() < 0) != want {
			t.Errorf("Parse(%.40s): sign %d", s, a.Sign())
		}
	}
}

// P1.1: strings that are not canonical.
func TestParseForm(t *testing.T) {
	long := strings.Repeat("1", 50000)
	words := []string{"", "-", "+1", "-0", "00", "01", "-01", "--1", "1-", " 1", "1 ", "1\n", "1_000", "1,0", "1.0", "1e3", "0x1", "a", "1/2", "\x00", "1\x00", "١", "−1", "½",
		"0" + long, "-0" + long, long + "x", "x" + long, "+" + long, long + " "}
	for _, s := range words {
		a, e := tally.Parse(s)
		expectError(t, "Parse of "+s[:min(len(s), 20)], a, e, api.ErrForm)
	}
}

// P1.1: numbers that are not small.
func TestParseSize(t *testing.T) {
	over := powerOfTwo(api.MaxBits, 0).String()
	for _, s := range []string{over, "-" + over, powerOfTwo(api.MaxBits, 1).String(), "1" + strings.Repeat("0", 12042), strings.Repeat("9", api.MaxBits), strings.Repeat("9", api.MaxBits+1), "-1" + strings.Repeat("0", 5_000_000)} {
		a, e := tally.Parse(s)
		expectError(t, "Parse", a, e, api.ErrSize)
	}
}

// P1.1: String of the results of calculations.
func TestStringIsCanonical(t *testing.T) {
	r := newRandom()
	for range 2000 {
		b := anyBig(r, 8)
		a := integer(b.String())
		zero, _ := a.Sub(a)
		if a.String() != b.String() || zero.String() != "0" || zero.Neg().String() != "0" {
			t.Fatalf("String of %s: %s; of 0: %s", b, a, zero)
		}
	}
	for i := range 60 {
		ten := new(big.Int).Exp(big.NewInt(10), big.NewInt(int64(i)), nil)
		power, e := tally.Of(10).Pow(i)
		expectInt(t, "10^i", power, e, ten.String())
		less, e := power.Sub(tally.Of(1))
		expectInt(t, "10^i - 1", less, e, ten.Sub(ten, big.NewInt(1)).String())
	}
}

// P1.1: Of and Int64.
func TestInt64(t *testing.T) {
	for _, n := range extremes() {
		a := tally.Of(n)
		if a.String() != strconv.FormatInt(n, 10) {
			t.Errorf("Of(%d): %s", n, a)
		}
		if got, ok := a.Int64(); got != n || !ok {
			t.Errorf("Int64 of %d: %d, %t", n, got, ok)
		}
	}
	for s, want := range map[string]bool{"9223372036854775807": true, "9223372036854775808": false, "-9223372036854775808": true, "-9223372036854775809": false,
		"18446744073709551615": false, "-18446744073709551615": false, "18446744073709551616": false, "18446744073709551617": false, "-18446744073709551617": false, greatest().String(): false} {
		n, ok := integer(s).Int64()
		if ok != want || ok && strconv.FormatInt(n, 10) != s || !ok && n != 0 {
			t.Errorf("Int64 of %.40s: %d, %t", s, n, ok)
		}
	}
	if n, ok := (tally.Int{}).Int64(); n != 0 || !ok {
		t.Errorf("Int64 of the zero value: %d, %t", n, ok)
	}
}

// P1.1: ParseRat and String.
func TestParseRatCanonical(t *testing.T) {
	top, next := greatest().String(), powerOfTwo(api.MaxBits, -2).String()
	for _, s := range []string{"0", "1", "-1", "7", "1/2", "-1/2", "22/7", "3/4", "-9223372036854775808", "1/9223372036854775808", "1/18446744073709551616", "10/9", top, "-" + top, "1/" + top, "-" + top + "/" + next, next + "/" + top} {
		r, e := tally.ParseRat(s)
		expectRat(t, "ParseRat", r, e, s)
	}
}

// P1.1: strings that are no canonical fractions, however large the numbers in them.
func TestParseRatForm(t *testing.T) {
	over := new(big.Int).Lsh(powerOfTwo(api.MaxBits, 1), 1).String()
	long := "1" + strings.Repeat("0", 30000)
	words := []string{"", "/", "1/", "/2", "4/2", "2/4", "3/1", "-3/1", "0/1", "0/2", "-0", "-0/3", "1/0", "0/0", "1/-2", "1/+2", "+1/2", "-1/-2", "1/02", "01/2", "1/2/3", "1//2", " 1/2", "1/2 ", "1 /2", "1/ 2", "1.5", "½", "a/2", "1/a",
		"6/3", "7/7", "-4/6", "18446744073709551616/4", "4/18446744073709551616", "18446744073709551616/18446744073709551616",
		over + "/2", "2/" + over, over + "/" + over, "0/" + over, over + "/1", over + "/0", over + "/02", long + "/5", long + "/" + long + "0", long + "x/3", "0" + long + "/3", "3/0" + long}
	for _, s := range words {
		r, e := tally.ParseRat(s)
		expectError(t, "ParseRat of "+s[:min(len(s), 20)], r, e, api.ErrForm)
	}
}

// P1.1: fractions in canonical form that are not small.
func TestParseRatSize(t *testing.T) {
	over := powerOfTwo(api.MaxBits, 0).String()
	more := powerOfTwo(api.MaxBits, 1).String()
	long := "1" + strings.Repeat("0", 30000)
	for _, s := range []string{over, "-" + over, over + "/3", "-" + over + "/3", "3/" + over, "-1/" + more, over + "/" + more, more + "/" + over, long + "/3", "3/" + long, long + "1/" + long} {
		r, e := tally.ParseRat(s)
		expectError(t, "ParseRat", r, e, api.ErrSize)
	}
}

// P1.1: Of, with each of the powers of two that an int64 can be near.
func TestOfPowersOfTwo(t *testing.T) {
	for shift := range 63 {
		for more := int64(-1); more <= 1; more++ {
			for _, n := range []int64{1<<shift + more, -1<<shift + more} {
				if got, ok := integer(strconv.FormatInt(n, 10)).Int64(); got != n || !ok {
					t.Errorf("%d: %d, %t", n, got, ok)
				}
			}
		}
	}
	if got := tally.Of(math.MinInt64).Neg().String(); got != "9223372036854775808" {
		t.Errorf("Neg of the least int64: %s", got)
	}
}
