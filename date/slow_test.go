package date_test

import (
	"regexp"
	"slices"
	"strconv"
	"strings"
	"testing"
	"time"

	"halfwayhouse/api"
	"halfwayhouse/date"
)

const (
	shortDays = "Sun|Mon|Tue|Wed|Thu|Fri|Sat"
	longDays  = "Sunday|Monday|Tuesday|Wednesday|Thursday|Friday|Saturday"
	months    = "Jan|Feb|Mar|Apr|May|Jun|Jul|Aug|Sep|Oct|Nov|Dec"
	ofTheDay  = `(?P<hour>[0-9]{2}):(?P<minute>[0-9]{2}):(?P<second>[0-9]{2})`
)

// shapes are what the document says of each format, apart from the numbers.
var shapes = []*regexp.Regexp{
	regexp.MustCompile(`\A(?P<weekday>` + shortDays + `), (?P<day>[0-9]{2}) (?P<month>` + months + `) (?P<year>[0-9]{4}) ` + ofTheDay + ` GMT\z`),
	regexp.MustCompile(`\A(?P<weekday>` + longDays + `), (?P<day>[0-9]{2})-(?P<month>` + months + `)-(?P<short>[0-9]{2}) ` + ofTheDay + ` GMT\z`),
	regexp.MustCompile(`\A(?P<weekday>` + shortDays + `) (?P<month>` + months + `) (?P<day>[ 123][0-9]) ` + ofTheDay + ` (?P<year>[0-9]{4})\z`),
}

// slow returns the second that s denotes, -1 if there is none.
func slow(s string, now int64) int64 {
	for _, shape := range shapes {
		found := shape.FindStringSubmatch(s)
		if found == nil {
			continue
		}
		part := func(name string) string {
			if i := shape.SubexpIndex(name); i >= 0 {
				return found[i]
			}
			return ""
		}
		number := func(name string) int {
			n, _ := strconv.Atoi(strings.TrimSpace(part(name)))
			return n
		}
		year := number("year")
		if part("short") != "" {
			year = full(number("short"), time.Unix(min(max(now, 0), api.MaxTime), 0).UTC().Year())
		}
		c := api.Civil{
			Year: year, Month: 1 + slices.Index(strings.Split(months, "|"), part("month")), Day: number("day"),
			Hour: number("hour"), Minute: number("minute"), Second: number("second"),
			Weekday: slices.Index(strings.Split(shortDays, "|"), part("weekday")[:3]),
		}
		at := time.Date(c.Year, time.Month(c.Month), c.Day, c.Hour, c.Minute, c.Second, 0, time.UTC).Unix()
		if at >= 0 && at <= api.MaxTime && of(at) == c {
			return at
		}
	}
	return -1
}

// bases are texts of each format; their neighbours are often valid, too.
var bases = []string{
	"Sun, 06 Nov 1994 08:49:37 GMT", "Sunday, 06-Nov-94 08:49:37 GMT", "Sun Nov  6 08:49:37 1994",
	"Wed, 29 Feb 1972 23:59:59 GMT", "Wednesday, 29-Feb-72 23:59:59 GMT", "Tue Feb 29 00:00:00 2000",
	"Thu, 01 Jan 1970 00:00:00 GMT", "Fri Dec 31 23:59:59 9999", "Saturday, 30-Jun-01 19:20:09 GMT", "Tue May 11 11:11:11 2010",
}

// compare asks for s, and reports whether it is a text of a second.
func compare(t *testing.T, s string, now int64) bool {
	want, wrong := slow(s, now), api.OK
	if want < 0 {
		want, wrong = 0, api.ErrBad
	}
	if n, e := date.Parse(s, now); n != want || e != wrong {
		t.Fatalf("Parse(%q, %d) = %d, %d, want %d, %d", s, now, n, e, want, wrong)
	}
	return wrong == api.OK
}

// P9.2: each byte at each place, in place of what is there and beside it, each byte left out, each beginning and each end.
func TestParseOfEdits(t *testing.T) {
	good := 0
	for _, s := range bases {
		for _, now := range []int64{0, 784111777, 2000000000, api.MaxTime} {
			for i := range len(s) + 1 {
				compare(t, s[:i], now)
				compare(t, s[i:], now)
				for b := range 256 {
					c := string([]byte{byte(b)})
					compare(t, s[:i]+c+s[i:], now)
					if i < len(s) && compare(t, s[:i]+c+s[i+1:], now) {
						good++
					}
				}
				if i < len(s) {
					compare(t, s[:i]+s[i+1:], now)
				}
				if i < len(s)-1 {
					compare(t, s[:i]+s[i+1:i+2]+s[i:i+1]+s[i+2:], now) // two in the other order
				}
			}
		}
	}
	if good < 1000 {
		t.Errorf("only %d edits are texts of seconds", good)
	}
}

// P9.2: each weekday with each two places of the day and each month, in each format.
func TestParseOfEveryName(t *testing.T) {
	const now = 951827696
	good := 0
	try := func(s string) {
		if compare(t, s, now) {
			good++
		}
	}
	for tens := range 10 {
		for ones := range 10 {
			d := strconv.Itoa(tens) + strconv.Itoa(ones)
			blank := strings.Replace(d, "0", " ", 1)
			for _, weekday := range strings.Split(longDays+"|Thursda|Sun|", "|") {
				short := weekday[:min(3, len(weekday))]
				for _, month := range strings.Split(months+"|jan|JAN||Sept", "|") {
					try(short + ", " + d + " " + month + " 2004 12:34:56 GMT")
					try(short + ", " + blank + " " + month + " 2004 12:34:56 GMT")
					try(weekday + ", " + d + "-" + month + "-03 12:34:56 GMT")
					try(weekday + ", " + blank + "-" + month + "-03 12:34:56 GMT")
					try(short + " " + month + " " + d + " 12:34:56 2002")
					try(short + " " + month + " " + blank + " 12:34:56 2002")
				}
			}
		}
	}
	if good < 3*365 {
		t.Errorf("only %d of them are texts of seconds", good)
	}
}

// P9.2: each two digits at each place of the time.
func TestParseOfEveryTime(t *testing.T) {
	for n := range 100 {
		for _, s := range bases {
			at := strings.Index(s, ":")
			for _, i := range []int{at - 2, at + 1, at + 4} {
				compare(t, s[:i]+two(n)+s[i+2:], 0)
			}
		}
	}
}

// P9.2: each year of four digits, with each weekday.
func TestParseOfEveryYear(t *testing.T) {
	for year := range 10000 {
		digits := two(year/100) + two(year%100)
		good := 0
		for _, weekday := range strings.Split(shortDays, "|") {
			for _, s := range []string{weekday + ", 01 Mar " + digits + " 00:00:00 GMT", weekday + " Mar  1 00:00:00 " + digits} {
				if compare(t, s, 0) {
					good++
				}
			}
		}
		if (good == 2) != (year >= 1970) || good != 0 && good != 2 {
			t.Errorf("%d: %d texts", year, good)
		}
	}
}
