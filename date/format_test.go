package date_test

import (
	"math"
	"strings"
	"testing"
	"time"

	"halfwayhouse/api"
	"halfwayhouse/date"
)

// The three formats, as the library writes them.
const (
	first  = "Mon, 02 Jan 2006 15:04:05 GMT"
	second = "Monday, 02-Jan-06 15:04:05 GMT"
	third  = "Mon Jan _2 15:04:05 2006"
)

func text(t int64, layout string) string { return time.Unix(t, 0).UTC().Format(layout) }

// P9.2: the first format.
func TestFormat(t *testing.T) {
	for _, x := range []struct {
		t int64
		s string
	}{
		{0, "Thu, 01 Jan 1970 00:00:00 GMT"},
		{784111777, "Sun, 06 Nov 1994 08:49:37 GMT"},
		{951827696, "Tue, 29 Feb 2000 12:34:56 GMT"},
		{api.MaxTime, "Fri, 31 Dec 9999 23:59:59 GMT"},
	} {
		if s, e := date.Format(x.t); s != x.s || e != api.OK {
			t.Errorf("Format(%d) = %q, %d", x.t, s, e)
		}
	}
	for _, at := range outside {
		if s, e := date.Format(at); s != "" || e != api.ErrArg {
			t.Errorf("Format(%d) = %q, %d", at, s, e)
		}
	}
}

// checkTexts asks for what the three formats of a second denote; now is that second, so that the short year is its own.
func checkTexts(t *testing.T, at int64) {
	s, e := date.Format(at)
	if s != text(at, first) || e != api.OK {
		t.Fatalf("Format(%d) = %q, %d", at, s, e)
	}
	for _, layout := range []string{first, second, third} {
		if n, e := date.Parse(text(at, layout), at); n != at || e != api.OK {
			t.Fatalf("Parse(%q) = %d, %d, want %d", text(at, layout), n, e, at)
		}
	}
}

// P9.2, P9.3: each day in each format.
func TestTextsOfEveryDay(t *testing.T) {
	for d := int64(0); d <= lastDay; d += 1 + d/40000 { // days that come later are more and more apart
		checkTexts(t, d*day+d*7919%day)
	}
	for d := int64(lastDay - 800); d <= lastDay; d++ {
		checkTexts(t, d*day+day-1)
	}
	for s := range int64(day) {
		checkTexts(t, s)
	}
}

// Only a year of two digits depends on now.
func TestParseAtAnyTime(t *testing.T) {
	for _, now := range append([]int64{0, 1, 784111777, api.MaxTime - 1, api.MaxTime}, outside...) {
		for _, layout := range []string{first, third} {
			if n, e := date.Parse(text(784111777, layout), now); n != 784111777 || e != api.OK {
				t.Errorf("Parse(%q, %d) = %d, %d", text(784111777, layout), now, n, e)
			}
		}
	}
}

// at returns the first second of a year.
func at(year int) int64 { return time.Date(year, 1, 1, 0, 0, 0, 0, time.UTC).Unix() }

// P9.2: years of two digits. The weekday is that of the full year.
func TestParseOfShortYears(t *testing.T) {
	for _, x := range []struct{ digits, now, year int }{
		{94, 1994, 1994}, {94, 2026, 1994}, {26, 2026, 2026}, {76, 2026, 2076}, {77, 2026, 1977}, {0, 2026, 2000}, {0, 2000, 2000}, {99, 2000, 1999},
		{50, 2000, 2050}, {51, 2000, 2051}, {69, 2000, 2069}, {70, 2000, 1970}, // below 1970 without the hundred years
		{70, 1970, 1970}, {99, 1970, 1999}, {69, 1970, 2069}, {0, 1970, 2000}, {20, 1970, 2020}, {21, 1970, 2021},
		{0, 1999, 2000}, {49, 1999, 2049}, {50, 1999, 2050}, {99, 1999, 1999},
		{69, 2019, 2069}, {70, 2019, 1970}, {70, 2020, 2070}, {69, 2018, 2069}, {71, 2020, 1971},
		{99, 2049, 2099}, {99, 2048, 1999}, {0, 2099, 2000}, {99, 2099, 2099}, {49, 2099, 2049}, // not the century after now's
		{50, 2100, 2150}, {51, 2100, 2051}, {0, 2199, 2100}, {99, 9999, 9999}, {0, 9999, 9900}, {50, 9900, 9950}, {51, 9900, 9851},
	} {
		s := text(at(x.year)+5, second)
		if !strings.Contains(s, "-Jan-"+two(x.digits)+" ") {
			t.Fatalf("%q is no test of %+v", s, x)
		}
		for _, now := range []int64{at(x.now), at(x.now+1) - 1} {
			if n, e := date.Parse(s, now); n != at(x.year)+5 || e != api.OK {
				t.Errorf("%+v: Parse(%q, %d) = %d, %d", x, s, now, n, e)
			}
		}
	}
}

// two returns two digits.
func two(n int) string { return string([]byte{byte('0' + n/10), byte('0' + n%10)}) }

// full is the document's term for the year that two digits denote.
func full(digits, now int) int {
	year := now/100*100 + digits
	if year > now+50 {
		year -= 100
	}
	if year < 1970 {
		year += 100
	}
	return year
}

// Every two digits in every year, and a now that counts as the first or the last second.
func TestParseOfEveryShortYear(t *testing.T) {
	check := func(digits, year int, now int64) {
		want := at(full(digits, year))
		if n, e := date.Parse(text(want, second), now); n != want || e != api.OK {
			t.Fatalf("Parse(%q, %d) = %d, %d, want %d", text(want, second), now, n, e, want)
		}
	}
	for digits := range 100 {
		for year := 1970; year <= lastYear; year += 1 + year/2500 {
			check(digits, year, at(year)+int64(digits))
		}
		for _, now := range outside {
			year := 1970
			if now > 0 {
				year = lastYear
			}
			check(digits, year, now)
		}
	}
}

// The weekday of the same two digits in another century is wrong.
func TestParseOfShortYearsInOtherCenturies(t *testing.T) {
	for _, x := range []struct {
		s   string
		now int
		ok  bool
	}{
		{"Sunday, 06-Nov-94 08:49:37 GMT", 2026, true},
		{"Sunday, 06-Nov-94 08:49:37 GMT", 2043, true},
		{"Sunday, 06-Nov-94 08:49:37 GMT", 2044, false},
		{"Saturday, 06-Nov-94 08:49:37 GMT", 2044, true},
		{"Tuesday, 29-Feb-00 00:00:00 GMT", 2026, true},
		{"Monday, 29-Feb-00 00:00:00 GMT", 2126, false}, // 2100 has no such day
		{"Tuesday, 29-Feb-00 00:00:00 GMT", 2126, false},
		{"Sunday, 28-Feb-00 00:00:00 GMT", 2126, true},
	} {
		if n, e := date.Parse(x.s, at(x.now)); (e == api.OK) != x.ok || !x.ok && (n != 0 || e != api.ErrBad) {
			t.Errorf("Parse(%q, in %d) = %d, %d", x.s, x.now, n, e)
		}
	}
}

// P9.2: texts that are in none of the formats.
func TestParseOfWrongTexts(t *testing.T) {
	for _, s := range []string{
		"", " ", ",", ", ", "GMT", "0", "784111777", "1994-11-06T08:49:37Z", strings.Repeat("0", 29), strings.Repeat(" ", 24), strings.Repeat("\x00", 24), strings.Repeat("é", 12),
		"Mon, 06 Nov 1994 08:49:37 GMT", "Mon Nov  6 08:49:37 1994", "Monday, 06-Nov-94 08:49:37 GMT", // another weekday
		"sun, 06 Nov 1994 08:49:37 GMT", "SUN, 06 Nov 1994 08:49:37 GMT", "Sun, 06 nov 1994 08:49:37 GMT", "Sun, 06 NOV 1994 08:49:37 GMT", "Sun, 06 Nov 1994 08:49:37 gmt",
		"sunday, 06-Nov-94 08:49:37 GMT", "Sunday, 06-nov-94 08:49:37 GMT", "Sunday, 06-Nov-94 08:49:37 Gmt", "sun Nov  6 08:49:37 1994", "Sun NOV  6 08:49:37 1994",
		"Sun, 06 Nov 1994 08:49:37 UTC", "Sun, 06 Nov 1994 08:49:37 +0000", "Sun, 06 Nov 1994 08:49:37", "Sun, 06 Nov 1994 08:49:37 GM", "Sun, 06 Nov 1994 08:49:37 GMT ", " Sun, 06 Nov 1994 08:49:37 GMT",
		"Sun, 6 Nov 1994 08:49:37 GMT", "Sun,  6 Nov 1994 08:49:37 GMT", "Sun, 006 Nov 1994 08:49:37 GMT", "Sun 06 Nov 1994 08:49:37 GMT", "Sun,06 Nov 1994 08:49:37 GMT",
		"Sun, 06 Nov 94 08:49:37 GMT", "Sun, 06 Nov 01994 08:49:37 GMT", "Sun, 06-Nov-1994 08:49:37 GMT", "Sunday, 06 Nov 1994 08:49:37 GMT", "Sun, 06 November 1994 08:49:37 GMT",
		"Sun, 06-Nov-94 08:49:37 GMT", "Sunday, 06-Nov-1994 08:49:37 GMT", "Sunday, 06 Nov 94 08:49:37 GMT", "Sunday, 6-Nov-94 08:49:37 GMT", "Sunday,  6-Nov-94 08:49:37 GMT", "Sunday 06-Nov-94 08:49:37 GMT",
		"Sun, Sunday, 06-Nov-94 08:49:37 GMT", "Sunday, , 06-Nov-94 08:49:37 GMT", ", 06-Nov-94 08:49:37 GMT", "06-Nov-94 08:49:37 GMT", "06 Nov 1994 08:49:37 GMT",
		"Sun Nov 6 08:49:37 1994", "Sun Nov 06 08:49:37 1994", "Sun Nov 6  08:49:37 1994", "Sun Nov \t6 08:49:37 1994", "Sun Nov  6 08:49:37 94", "Sun Nov  6 08:49:37 1994 GMT", "Sun, Nov  6 08:49:37 1994", "Sunday Nov  6 08:49:37 1994",
		"Sun Nov  6 8:49:37 1994", "Sun Nov  6  8:49:37 1994", "Sun, 06 Nov 1994 8:49:37 GMT", "Sun, 06 Nov 1994  8:49:37 GMT", "Sun, 06 Nov 1994 08:49 GMT", "Sun, 06 Nov 1994 08:49:37.0 GMT",
		"Sun, 06 Nov 1994 +8:49:37 GMT", "Sun, +6 Nov 1994 08:49:37 GMT", "Sun, 06 Nov 1994 08:49:-1 GMT", "Sun, 06 Nov +994 08:49:37 GMT", "Sun, 06 Nov 1994 08-49-37 GMT",
		"Wed, 31 Dec 1969 23:59:59 GMT", "Wed Dec 31 23:59:59 1969", "Sat, 01 Jan 10000 00:00:00 GMT", "Sat Jan  1 00:00:00 10000", "Thu, 01 Jan 0070 00:00:00 GMT", "Mon, 01 Jan 0001 00:00:00 GMT", // no seconds of those years
		"Thu, 00 Jan 1970 00:00:00 GMT", "Sun, 32 Jan 2000 00:00:00 GMT", "Thu, 29 Feb 2001 00:00:00 GMT", "Mon, 29 Feb 2100 00:00:00 GMT", "Wed, 30 Feb 2000 00:00:00 GMT", "Wed Feb 30 00:00:00 2000", "Sat, 31 Apr 2000 00:00:00 GMT", "Thu Jan  0 00:00:00 1970", // no days
		"Sun, 06 Nov 1994 24:00:00 GMT", "Mon, 07 Nov 1994 24:00:00 GMT", "Sun, 06 Nov 1994 08:60:00 GMT", "Sun, 06 Nov 1994 08:49:60 GMT", "Sun, 06 Nov 1994 99:99:99 GMT", "Sun Nov  6 24:00:00 1994", "Sunday, 06-Nov-94 24:00:00 GMT", // no times
		"Thu, 31 Dec 1998 23:59:60 GMT", "Fri, 31 Dec 9999 23:59:60 GMT", "Fri, 31 Dec 9999 99:99:99 GMT", "Fri Dec 31 24:00:00 9999", "Friday, 31-Dec-99 24:00:00 GMT", // beyond the last second
		"Foo, 06 Nov 1994 08:49:37 GMT", "Sun, 06 Foo 1994 08:49:37 GMT", "Foo Nov  6 08:49:37 1994", "Fooday, 06-Nov-94 08:49:37 GMT", "Sun, 06 anF 1994 08:49:37 GMT", "Sun, 06     1994 08:49:37 GMT", // no names
		"Sun, 06 Nov 1994 08:49:37 GMT, Sun, 06 Nov 1994 08:49:37 GMT", "\"Sun, 06 Nov 1994 08:49:37 GMT\"", strings.Repeat("Sun, 06 Nov 1994 08:49:37 GMT", 1000),
	} {
		for _, now := range []int64{0, 784111777, api.MaxTime, math.MinInt64, math.MaxInt64} {
			if n, e := date.Parse(s, now); n != 0 || e != api.ErrBad {
				t.Errorf("Parse(%.60q, %d) = %d, %d", s, now, n, e)
			}
		}
	}
}
