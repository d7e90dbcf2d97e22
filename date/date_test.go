package date_test

import (
	"math"
	"testing"
	"time"

	"halfwayhouse/api"
	"halfwayhouse/date"
)

const (
	day      = 86400
	lastDay  = (api.MaxTime+1)/day - 1
	lastYear = 9999
)

// numbers are those at and beyond the edges of everything that is a number of years, months, days, hours, minutes or seconds.
var numbers = []int{
	math.MinInt64, math.MinInt64 + 1, math.MinInt32, -10000, -1970, -1, 0, 1, 2, 3, 6, 7, 11, 12, 13, 23, 24, 27, 28, 29, 30, 31, 32, 59, 60, 61,
	99, 100, 1969, 1970, 1971, 1972, 2000, 2100, 9999, 10000, math.MaxInt32, math.MaxInt32 + 1, 1 << 32, 1<<32 + 1, 1<<32 + 1970, math.MaxInt64 - 1, math.MaxInt64,
}

// of returns the civil time of t as the library knows it.
func of(t int64) api.Civil {
	u := time.Unix(t, 0).UTC()
	return api.Civil{
		Year: u.Year(), Month: int(u.Month()), Day: u.Day(),
		Hour: u.Hour(), Minute: u.Minute(), Second: u.Second(),
		Weekday: int(u.Weekday()),
	}
}

// leap is the document's term.
func leap(year int) bool { return year%4 == 0 && (year%100 != 0 || year%400 == 0) }

// length returns the number of days of a month, 0 if there is no such month.
func length(year, month int) int {
	switch {
	case month < 1 || month > 12:
		return 0
	case month == 2 && leap(year):
		return 29
	}
	return [...]int{31, 28, 31, 30, 31, 30, 31, 31, 30, 31, 30, 31}[month-1]
}

// P9.1: every day that there is, and those just beside them, counted one by one.
func TestDaysOfEveryDay(t *testing.T) {
	want := int64(0)
	for year := 1960; year <= lastYear+10; year++ {
		for month := -1; month <= 14; month++ {
			for d := -2; d <= 34; d++ {
				n, e := date.Days(year, month, d)
				if year < 1970 || year > lastYear || d < 1 || d > length(year, month) {
					if n != 0 || e != api.ErrArg {
						t.Fatalf("Days(%d, %d, %d) = %d, %d", year, month, d, n, e)
					}
					continue
				}
				if n != want || e != api.OK {
					t.Fatalf("Days(%d, %d, %d) = %d, %d, want %d", year, month, d, n, e, want)
				}
				want++
			}
		}
	}
	if want != lastDay+1 {
		t.Errorf("%d days", want)
	}
}

func TestDays(t *testing.T) {
	for _, x := range []struct {
		year, month, day int
		n                int64
	}{
		{1970, 1, 1, 0}, {1970, 1, 2, 1}, {1970, 2, 1, 31}, {1970, 12, 31, 364}, {1971, 1, 1, 365}, {1972, 2, 29, 789}, {1973, 1, 1, 1096},
		{1994, 11, 6, 9075}, {2000, 2, 29, 11016}, {2000, 3, 1, 11017}, {2100, 2, 28, 47540}, {2100, 3, 1, 47541}, {2400, 2, 29, 157113}, {9999, 12, 31, lastDay},
	} {
		if n, e := date.Days(x.year, x.month, x.day); n != x.n || e != api.OK {
			t.Errorf("Days(%d, %d, %d) = %d, %d", x.year, x.month, x.day, n, e)
		}
	}
	for _, x := range [][3]int{
		{1969, 12, 31}, {10000, 1, 1}, {1971, 2, 29}, {2000, 2, 30}, {2100, 2, 29}, {2200, 2, 29}, {1970, 0, 1}, {1970, 13, 1}, {1970, 1, 0}, {1970, 1, 32}, {1970, 4, 31}, {70, 1, 1}, {0, 0, 0},
	} {
		if n, e := date.Days(x[0], x[1], x[2]); n != 0 || e != api.ErrArg {
			t.Errorf("Days(%d) = %d, %d", x, n, e)
		}
	}
}

func TestDaysOfAnyNumbers(t *testing.T) {
	for _, year := range numbers {
		for _, month := range numbers {
			for _, d := range numbers {
				n, e := date.Days(year, month, d)
				good := year >= 1970 && year <= lastYear && d >= 1 && d <= length(year, month)
				if good != (e == api.OK) || !good && (n != 0 || e != api.ErrArg) {
					t.Fatalf("Days(%d, %d, %d) = %d, %d", year, month, d, n, e)
				}
				if good && n != time.Date(year, time.Month(month), d, 0, 0, 0, 0, time.UTC).Unix()/day {
					t.Fatalf("Days(%d, %d, %d) = %d", year, month, d, n)
				}
			}
		}
	}
}

// checkCivil asks for the civil time of t, and back (P9.3).
func checkCivil(t *testing.T, at int64) {
	c, e := date.Civil(at)
	if c != of(at) || e != api.OK {
		t.Fatalf("Civil(%d) = %+v, %d", at, c, e)
	}
	if back, e := date.Seconds(c); back != at || e != api.OK {
		t.Fatalf("Seconds(%+v) = %d, %d, want %d", c, back, e, at)
	}
}

// P9.1, P9.3: at the edges of every day, and within it.
func TestCivilOfEveryDay(t *testing.T) {
	for d := int64(0); d <= lastDay; d++ {
		checkCivil(t, d*day)
		checkCivil(t, d*day+day-1)
		checkCivil(t, d*day+d*7919%day)
	}
}

// Every second of a few days.
func TestCivilOfEverySecond(t *testing.T) {
	for _, d := range []int64{0, 789, 11016, 47540, lastDay} {
		for s := range int64(day) {
			checkCivil(t, d*day+s)
		}
	}
}

func TestCivil(t *testing.T) {
	for _, x := range []struct {
		t int64
		c api.Civil
	}{
		{0, api.Civil{Year: 1970, Month: 1, Day: 1, Weekday: 4}},
		{784111777, api.Civil{Year: 1994, Month: 11, Day: 6, Hour: 8, Minute: 49, Second: 37}},
		{951782400, api.Civil{Year: 2000, Month: 2, Day: 29, Weekday: 2}},
		{api.MaxTime, api.Civil{Year: 9999, Month: 12, Day: 31, Hour: 23, Minute: 59, Second: 59, Weekday: 5}},
	} {
		if c, e := date.Civil(x.t); c != x.c || e != api.OK {
			t.Errorf("Civil(%d) = %+v, %d", x.t, c, e)
		}
		if n, e := date.Seconds(x.c); n != x.t || e != api.OK {
			t.Errorf("Seconds(%+v) = %d, %d", x.c, n, e)
		}
	}
}

// outside are numbers that are no seconds.
var outside = []int64{-1, -2, -day, -day - 1, math.MinInt32, math.MinInt64, math.MinInt64 + 1, api.MaxTime + 1, api.MaxTime + 2, api.MaxTime + day, 1 << 40, math.MaxInt64 - 1, math.MaxInt64}

func TestCivilOfNoSecond(t *testing.T) {
	for _, at := range outside {
		if c, e := date.Civil(at); c != (api.Civil{}) || e != api.ErrArg {
			t.Errorf("Civil(%d) = %+v, %d", at, c, e)
		}
	}
}

// P9.1: each part of a civil time replaced by each number.
func TestSecondsOfEdits(t *testing.T) {
	for _, at := range []int64{0, 1, 59, 60, 3600, 784111777, 951782400, 951827696, 4107542399, api.MaxTime} {
		for part := range 7 {
			for _, n := range numbers {
				c := of(at)
				*[]*int{&c.Year, &c.Month, &c.Day, &c.Hour, &c.Minute, &c.Second, &c.Weekday}[part] = n
				checkSeconds(t, c)
			}
		}
	}
}

// checkSeconds asks for the second of c, which is valid only if it is the calendar time of its second.
func checkSeconds(t *testing.T, c api.Civil) {
	inRange := c.Year >= 1970 && c.Year <= lastYear && c.Day >= 1 && c.Day <= length(c.Year, c.Month) &&
		c.Hour >= 0 && c.Hour < 24 && c.Minute >= 0 && c.Minute < 60 && c.Second >= 0 && c.Second < 60
	want, wrong := int64(0), api.ErrArg
	if inRange {
		at := time.Date(c.Year, time.Month(c.Month), c.Day, c.Hour, c.Minute, c.Second, 0, time.UTC).Unix()
		if of(at) == c {
			want, wrong = at, api.OK
		}
	}
	if n, e := date.Seconds(c); n != want || e != wrong {
		t.Fatalf("Seconds(%+v) = %d, %d, want %d, %d", c, n, e, want, wrong)
	}
}

// Each day has one weekday, and each month its days.
func TestSecondsOfEveryDate(t *testing.T) {
	for _, year := range []int{1969, 1970, 1971, 1972, 1999, 2000, 2001, 2004, 2100, 2400, 9999, 10000} {
		for month := range 14 {
			for d := range 33 {
				for weekday := -1; weekday <= 7; weekday++ {
					checkSeconds(t, api.Civil{Year: year, Month: month, Day: d, Hour: 23, Minute: 59, Second: 59, Weekday: weekday})
				}
			}
		}
	}
}

// Parts that are too great for their place but make up a second together are not valid.
func TestSecondsOfCarries(t *testing.T) {
	for _, c := range []api.Civil{
		{},
		{Year: 1970, Month: 1, Day: 1, Hour: 24, Weekday: 4},
		{Year: 1970, Month: 1, Day: 1, Hour: 24, Weekday: 5},
		{Year: 1970, Month: 1, Day: 1, Minute: 60, Weekday: 4},
		{Year: 1970, Month: 1, Day: 1, Second: 60, Weekday: 4},
		{Year: 1970, Month: 1, Day: 1, Hour: 1, Minute: -60, Weekday: 4},
		{Year: 1970, Month: 1, Day: 1, Minute: 1, Second: -1, Weekday: 4},
		{Year: 1970, Month: 1, Day: 1, Weekday: 11},
		{Year: 1970, Month: 1, Day: 1, Weekday: -3},
		{Year: 1998, Month: 12, Day: 31, Hour: 23, Minute: 59, Second: 60, Weekday: 4}, // a leap second
		{Year: 1970, Month: 1, Day: 1, Hour: 1 << 62, Minute: 1 << 62, Second: 1 << 62, Weekday: 4},
		{Year: 9999, Month: 12, Day: 31, Hour: 24, Weekday: 5},
	} {
		if n, e := date.Seconds(c); n != 0 || e != api.ErrArg {
			t.Errorf("Seconds(%+v) = %d, %d", c, n, e)
		}
	}
}
