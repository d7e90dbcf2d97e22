package age_test

import (
	"math"
	"strings"
	"testing"

	"halfwayhouse/age"
	"halfwayhouse/api"
	"halfwayhouse/control"
)

// The second sec, in the three formats, and the next one.
const (
	sec    = 784111777
	first  = "Sun, 06 Nov 1994 08:49:37 GMT"
	second = "Sunday, 06-Nov-94 08:49:37 GMT"
	third  = "Sun Nov  6 08:49:37 1994"
	next   = "Sun, 06 Nov 1994 08:49:38 GMT"
	start  = "Thu, 01 Jan 1970 00:00:00 GMT"
	end    = "Fri, 31 Dec 9999 23:59:59 GMT"
	now    = 1800000000
)

// of makes a response of names and values in turn.
func of(texts ...string) api.Msg {
	m := api.Msg{Status: 200}
	for i := 0; i < len(texts); i += 2 {
		m.Fields = append(m.Fields, api.Field{Name: texts[i], Value: texts[i+1]})
	}
	return m
}

// The values of a field that are one time, and those that are none.
var (
	times = map[string]int64{first: sec, second: sec, third: sec, next: sec + 1, start: 0, end: api.MaxTime}
	wrong = []string{"", "0", "-1", "x", "784111777", " " + first, first + " ", first + ", " + first, first + "," + next, strings.ToLower(first), "Mon, 06 Nov 1994 08:49:37 GMT", "Sun, 06 Nov 1994 08:49:37", "Sun, 06 Nov 1994 08:49:60 GMT", `"` + first + `"`, "Wed, 31 Dec 1969 23:59:59 GMT"}
)

// P14.1: the Date of a response.
func TestDate(t *testing.T) {
	check := func(m api.Msg, want int64) {
		t.Helper()
		if got := age.TimesOf(m, 5, now); got != (api.Times{Asked: 5, Answered: now, Date: want}) {
			t.Errorf("TimesOf(%q) = %+v, want Date %d", m.Fields, got, want)
		}
		if got := age.Of(m, now); got != (api.Told{Control: control.None(), Date: want, Expires: -1, Last: -1, Status: 200}) {
			t.Errorf("Of(%q) = %+v, want Date %d", m.Fields, got, want)
		}
	}
	check(of(), -1)
	check(of("X-Date", first, "Date ", first, "", first, "Dates", first), -1)
	for value, at := range times {
		check(of("Date", value), at)
		check(of("dAtE", value), at)
		check(of("A", "1", "DATE", value, "B", "2"), at)
		check(of("Date", value, "Date", value), -1)
		check(of("Date", value, "B", "2", "date", ""), -1)
		check(of("date", "x", "Date", value), -1)
		check(of("Date", value, "Date", value, "Date", value), -1)
	}
	for _, value := range wrong {
		check(of("Date", value), -1)
		check(of("Date", value, "Date", first), -1)
	}
}

// P14.2: the time of last change is found as the Date is.
func TestLast(t *testing.T) {
	check := func(m api.Msg, want int64) {
		t.Helper()
		if got := age.Of(m, now); got != (api.Told{Control: control.None(), Date: -1, Expires: -1, Last: want, Status: 200}) {
			t.Errorf("Of(%q) = %+v, want Last %d", m.Fields, got, want)
		}
	}
	for value, at := range times {
		check(of("Last-Modified", value), at)
		check(of("A", "1", "last-MODIFIED", value, "Modified", next, "Last", next), at)
		check(of("Last-Modified", value, "Last-Modified", value), -1)
		check(of("Last-Modified", "x", "last-modified", value), -1)
	}
	for _, value := range wrong {
		check(of("Last-Modified", value), -1)
		check(of("Last-Modified", first, "Last-Modified", value), -1)
	}
}

// P14.2: Expires that is not exactly one time is long ago.
func TestExpires(t *testing.T) {
	check := func(m api.Msg, want int64) {
		t.Helper()
		if got := age.Of(m, now); got != (api.Told{Control: control.None(), Date: -1, Expires: want, Last: -1, Status: 200}) {
			t.Errorf("Of(%q) = %+v, want Expires %d", m.Fields, got, want)
		}
	}
	check(of(), -1)
	check(of("Expire", first, "Expires ", first, "X-Expires", ""), -1)
	for value, at := range times {
		check(of("Expires", value), at)
		check(of("A", "1", "EXPIRES", value), at)
		check(of("Expires", value, "Expires", value), 0)
		check(of("Expires", value, "A", "1", "expires", ""), 0)
		check(of("expires", "0", "Expires", value), 0)
	}
	for _, value := range wrong {
		check(of("Expires", value), 0)
		check(of("Expires", value, "Expires", value), 0)
	}
}

// P14.1: the Age of a response.
func TestAge(t *testing.T) {
	for _, x := range []struct {
		m   api.Msg
		age int64
	}{
		{of(), 0}, {of("Age", "0"), 0}, {of("Age", "7"), 7}, {of("aGE", "60"), 60}, {of("A", "1", "AGE", "60", "B", "2"), 60}, {of("Age", "007"), 7}, {of("Age", "00000000000000000000000000000007"), 7},
		{of("Age", "2147483647"), most - 1}, {of("Age", "2147483648"), most}, {of("Age", "2147483649"), most}, {of("Age", "4294967301"), most}, {of("Age", "9007199254740991"), most}, {of("Age", "9007199254740992"), most}, {of("Age", "18446744073709551621"), most}, {of("Age", strings.Repeat("9", 1000)), most},
		{of("Age", ""), 0}, {of("Age", "-1"), 0}, {of("Age", "+7"), 0}, {of("Age", "7s"), 0}, {of("Age", " 7"), 0}, {of("Age", "7 "), 0}, {of("Age", "7, 7"), 0}, {of("Age", `"7"`), 0}, {of("Age", "7.5"), 0}, {of("Age", "0x7"), 0}, {of("Age", "1e3"), 0}, {of("Age", "x"), 0}, {of("Age", strings.Repeat("9", 1000)+"x"), 0},
		{of("Age", "7", "Age", "7"), 0}, {of("Age", "7", "age", ""), 0}, {of("Age", "x", "Age", "7"), 0}, {of("Age", "7", "B", "2", "Age", "8", "Age", "9"), 0}, {of("Age", "9007199254740992", "Age", "9007199254740992"), 0},
		{of("Ages", "7", "Age ", "7", "X-Age", "7", "", "7"), 0},
	} {
		if got := age.TimesOf(x.m, 1, 2); got != (api.Times{Asked: 1, Answered: 2, Date: -1, Age: x.age}) {
			t.Errorf("TimesOf(%.100q) = %+v, want Age %d", x.m.Fields, got, x.age)
		}
	}
}

// P14.1 and P14.2: the year of a time with two digits of it is one near the time when the response was received, or near now.
func TestShortYears(t *testing.T) {
	const (
		inNinetyFour = sec          // Sunday, 06-Nov-94 in 1994
		later        = 253239727777 // the same in 9994
	)
	m := of("Date", second, "Expires", second, "Last-Modified", second)
	for _, x := range []struct{ now, at int64 }{{now, inNinetyFour}, {0, inNinetyFour}, {-1, inNinetyFour}, {math.MinInt64, inNinetyFour}, {api.MaxTime, later}, {api.MaxTime + 1, later}, {math.MaxInt64, later}} {
		// When it was asked for does not count.
		for _, asked := range []int64{x.now, now, 0, math.MaxInt64, math.MinInt64} {
			if got := age.TimesOf(m, asked, x.now); got != (api.Times{Asked: asked, Answered: x.now, Date: x.at}) {
				t.Errorf("asked %d, answered %d: %+v, want Date %d", asked, x.now, got, x.at)
			}
		}
		if got := age.Of(m, x.now); got.Date != x.at || got.Expires != x.at || got.Last != x.at {
			t.Errorf("now %d: %+v, want %d", x.now, got, x.at)
		}
	}
	// A year in which that day is no Sunday.
	if got := age.Of(m, 4000000000); got.Date != -1 || got.Expires != 0 || got.Last != -1 {
		t.Errorf("in 2096: %+v", got)
	}
}

// P14.1: the times are kept as they are, also outside the range.
func TestTimesAreKept(t *testing.T) {
	for _, asked := range edges {
		for _, answered := range edges {
			if got := age.TimesOf(of("Date", first, "Age", "3"), asked, answered); got != (api.Times{Asked: asked, Answered: answered, Date: sec, Age: 3}) {
				t.Errorf("asked %d, answered %d: %+v", asked, answered, got)
			}
		}
	}
}

// P14.2: the control of a response is that of all its Cache-Control fields, its status is kept.
func TestControl(t *testing.T) {
	for _, x := range []struct {
		m      api.Msg
		values []string
	}{
		{of(), nil}, {of("Cache-Control", ""), nil}, {of("cache-CONTROL", "max-age=5"), []string{"max-age=5"}},
		{of("Cache-Control", "max-age=5, public", "A", "no-store", "Cache-Control", "s-maxage=3, max-age=4"), []string{"max-age=5", "public", "s-maxage=3", "max-age=4"}},
		{of("Cache-Control", `private="a`, "Cache-Control", "max-age=4"), []string{"private", "max-age=4"}}, {of("Cache-Control", "max-age=99999999999999999999"), []string{"max-age=2147483648"}}, {of("Cache-Control", "max-age=x, stale-if-error=x"), []string{"max-age=0"}},
		{of("Control", "no-store", "Cache-Controls", "no-store", "Pragma", "no-cache", "Cache-Control ", "no-store"), nil},
	} {
		for _, status := range []int{0, 200, 304, 599, -1, math.MaxInt, math.MinInt} {
			x.m.Status = status
			if got := age.Of(x.m, now); got != (api.Told{Control: control.Parse(x.values), Date: -1, Expires: -1, Last: -1, Status: status}) {
				t.Errorf("Of(%+v) = %+v", x.m, got)
			}
		}
	}
}

// P14.1 and P14.2: only the fields count, not the trailers, the content or the rest of the first line.
func TestOtherPartsOfMessages(t *testing.T) {
	m := of("A", "1")
	m.Method, m.Target, m.Reason, m.Minor = "GET", "/", first, 1
	m.Trailers = of("Date", first, "Expires", first, "Last-Modified", first, "Age", "7", "Cache-Control", "no-store").Fields
	m.Body = "Date: " + first + "\r\nAge: 7\r\n"
	if got := age.TimesOf(m, 1, 2); got != (api.Times{Asked: 1, Answered: 2, Date: -1}) {
		t.Errorf("%+v", got)
	}
	if got := age.Of(m, now); got != (api.Told{Control: control.None(), Date: -1, Expires: -1, Last: -1, Status: 200}) {
		t.Errorf("%+v", got)
	}
}

// From a response to its life and its age, as a cache asks for them.
func TestWhole(t *testing.T) {
	m := of("Date", first, "Age", "10", "Last-Modified", "Sun, 06 Nov 1994 08:32:57 GMT")
	times := age.TimesOf(m, sec+1, sec+3)
	if life := age.Life(age.Of(m, sec+3), 0.1); life != 100 {
		t.Errorf("life %d", life)
	}
	if got := age.Current(times, sec+60); got != 69 {
		t.Errorf("age %d", got)
	}
	m.Fields = append(m.Fields, api.Field{Name: "Expires", Value: next})
	if life := age.Life(age.Of(m, sec+3), 0.1); life != 1 {
		t.Errorf("with Expires: life %d", life)
	}
	m.Fields = append(m.Fields, api.Field{Name: "Cache-Control", Value: "max-age=60"})
	if life := age.Life(age.Of(m, sec+3), 0.1); life != 60 {
		t.Errorf("with max-age: life %d", life)
	}
}
