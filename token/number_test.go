package token_test

import (
	"math"
	"strconv"
	"strings"
	"testing"

	"halfwayhouse/api"
	"halfwayhouse/token"
)

// P1.2: numbers.
func TestNumber(t *testing.T) {
	zeros := strings.Repeat("0", 1000)
	for _, x := range []struct {
		s string
		n int64
	}{
		{"0", 0}, {"9", 9}, {"10", 10}, {"2147483648", 1 << 31}, {"9007199254740990", 1<<53 - 2}, {"9007199254740991", api.MaxNumber},
		{"00", 0}, {"007", 7}, {zeros, 0}, {zeros + "1", 1}, {zeros + "9007199254740991", api.MaxNumber}, // leading zeros
	} {
		if n, e := token.Number(x.s); n != x.n || e != api.OK {
			t.Errorf("Number(%q) = %d, %d", x.s, n, e)
		}
	}
	for _, s := range []string{
		"9007199254740992", "9007199254740993", "10000000000000000", "90071992547409910", zeros + "9007199254740992",
		"9223372036854775807", "9223372036854775808", "18446744073709551616", "18446744073709551617", "36893488147419103233", // beyond int64, and round
		"1" + zeros, strings.Repeat("9", 100000),
	} {
		if n, e := token.Number(s); n != 0 || e != api.ErrLong {
			t.Errorf("Number(%.30q) = %d, %d", s, n, e)
		}
	}
	for _, s := range []string{
		"", " ", "-1", "+1", "-0", " 1", "1 ", "1\t", "a", "1a", "a1", "0x1", "1e3", "1.0", "1,2", "1_0", "/", ":", "\x00", "\xb2", "٣",
		strings.Repeat("9", 100) + "x", "9007199254740992 ", // too great as well, but no number
	} {
		if n, e := token.Number(s); n != 0 || e != api.ErrBad {
			t.Errorf("Number(%q) = %d, %d", s, n, e)
		}
	}
}

// P1.3: weights, by the list of all that there are.
func TestWeightOfEveryWeight(t *testing.T) {
	check := func(s string, thousandths int) {
		q, e := token.Weight(s)
		switch {
		case thousandths <= 1000 && (e != api.OK || q != float64(thousandths)/1000):
			t.Errorf("Weight(%q) = %v, %d", s, q, e)
		case thousandths > 1000 && (e != api.ErrBad || q != 0):
			t.Errorf("Weight(%q) = %v, %d", s, q, e)
		}
	}
	for whole := range 2 {
		begin := strconv.Itoa(whole)
		check(begin, whole*1000)
		check(begin+".", whole*1000)
		for places, step := 1, 100; places <= 3; places, step = places+1, step/10 {
			for n := range 1000 / step {
				digits := strconv.Itoa(n)
				digits = strings.Repeat("0", places-len(digits)) + digits
				check(begin+"."+digits, whole*1000+n*step)
			}
		}
	}
}

func TestWeightOfWrongTexts(t *testing.T) {
	for _, s := range []string{
		"", ".", ".5", "2", "2.0", "9", "00", "01", "10", "11", "00.5", "0,5", "0..", "0.5.", "0.1.2", "1.001", "1.1", "1.999",
		"0.1234", "0.0000", "1.0000", "0.0001", "-0", "-0.5", "+1", " 1", "1 ", "0 .5", "0. 5", "0.5 ", "0.5x", "0.x", "0.+5", "0.-1", "0.1e", "1e0", "NaN", "Inf", "0x1", "0.\x00",
	} {
		if q, e := token.Weight(s); q != 0 || e != api.ErrBad {
			t.Errorf("Weight(%q) = %v, %d", s, q, e)
		}
	}
}

func thousandths(k int) string {
	if k%1000 == 0 {
		return strconv.Itoa(k / 1000)
	}
	return "0." + strings.TrimRight(strconv.Itoa(1000 + k)[1:], "0")
}

func TestWeightText(t *testing.T) {
	for _, x := range []struct {
		q float64
		s string
	}{
		{0, "0"}, {math.Copysign(0, -1), "0"}, {1, "1"}, {0.25, "0.25"}, {0.5, "0.5"}, {0.001, "0.001"}, {0.1, "0.1"}, {0.999, "0.999"},
		{0.0009999, "0"}, {0.0019999, "0.001"}, {0.29999, "0.299"}, {0.9999999, "0.999"}, {1.0 / 3, "0.333"}, {2.0 / 3, "0.666"},
		{math.SmallestNonzeroFloat64, "0"}, {math.Nextafter(1, 0), "0.999"},
		{math.NaN(), ""}, {-math.NaN(), ""}, {math.Inf(1), ""}, {math.Inf(-1), ""}, {-1, ""}, {2, ""}, {math.MaxFloat64, ""}, {-math.MaxFloat64, ""},
		{-math.SmallestNonzeroFloat64, ""}, {math.Nextafter(1, 2), ""}, {-0.5, ""}, {1.0001, ""},
	} {
		if s := token.WeightText(x.q); s != x.s {
			t.Errorf("WeightText(%v) = %q, want %q", x.q, s, x.s)
		}
	}
}

// At each quotient, one step of a float64 below it, and one above.
func TestWeightTextAtEveryStep(t *testing.T) {
	for k := range 1001 {
		q := float64(k) / 1000
		if s := token.WeightText(q); s != thousandths(k) {
			t.Errorf("WeightText(%v) = %q", q, s)
		}
		if s := token.WeightText(math.Nextafter(q, -1)); k > 0 && s != thousandths(k-1) {
			t.Errorf("WeightText below %v = %q", q, s)
		}
		if s := token.WeightText(math.Nextafter(q, 2)); k < 1000 && s != thousandths(k) {
			t.Errorf("WeightText above %v = %q", q, s)
		}
	}
}

// P1.4: Weight of WeightText(q) is not above q, and below it by less than a thousandth and one step.
func TestWeightOfWeightText(t *testing.T) {
	check := func(q float64) {
		w, e := token.Weight(token.WeightText(q))
		step := math.Nextafter(q, 2) - q
		if e != api.OK || w > q || q-w >= 0.001+step {
			t.Fatalf("Weight(%q) = %v, %d for %v", token.WeightText(q), w, e, q)
		}
	}
	for i := range 300001 {
		q := float64(i) / 300000
		check(q)
		check(math.Nextafter(q, 1))
		check(max(0, math.Nextafter(q, -1)))
	}
	for q := 1.0; q > 0; q /= 2 {
		check(q)
	}
}
