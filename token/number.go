package token

import (
	"strconv"
	"strings"

	"halfwayhouse/api"
)

// Number returns the number that s denotes, ErrBad unless s is one or more digits, or ErrLong if the number is above MaxNumber.
func Number(s string) (int64, api.Errno) {
	if s == "" {
		return 0, api.ErrBad
	}
	n := int64(0)
	for i := range len(s) {
		if s[i] < '0' || s[i] > '9' {
			return 0, api.ErrBad
		}
		if n <= api.MaxNumber { // once too great it stays so, and more digits could make it overflow
			n = n*10 + int64(s[i]-'0')
		}
	}
	if n > api.MaxNumber {
		return 0, api.ErrLong
	}
	return n, api.OK
}

// Weight returns the value of a quality weight, or ErrBad unless s is 0 or 1, optionally with a point and at most three digits, and at most 1.
func Weight(s string) (float64, api.Errno) {
	whole, part, _ := strings.Cut(s, ".")
	if whole != "0" && whole != "1" || len(part) > 3 {
		return 0, api.ErrBad
	}
	n, e := Number((part + "000")[:3])
	if e != api.OK {
		return 0, e
	}
	if whole == "1" {
		n += 1000
	}
	q := float64(n) / 1000
	if q > 1 {
		return 0, api.ErrBad
	}
	return q, api.OK
}

// WeightText returns the greatest weight of at most three digits that is not above q, as a text, or the empty string if q is NaN, below 0 or above 1.
func WeightText(q float64) string {
	if !(q >= 0 && q <= 1) { // asked in this way round, as NaN fails every comparison
		return ""
	}
	// The product is rounded, so it may be a little below the number of thousandths: begin one higher.
	k := min(int(q*1000)+1, 1000)
	for float64(k)/1000 > q {
		k--
	}
	return strconv.FormatFloat(float64(k)/1000, 'f', -1, 64)
}
