package decide_test

import (
	"math"
	"testing"

	"halfwayhouse/age"
	"halfwayhouse/api"
	"halfwayhouse/control"
	"halfwayhouse/decide"
)

// The second sec, and one that is 1000 seconds earlier.
const (
	sec   = 784111777
	first = "Sun, 06 Nov 1994 08:49:37 GMT"
	prior = "Sun, 06 Nov 1994 08:32:57 GMT"
)

// of makes a response of names and values in turn.
func of(texts ...string) api.Msg {
	m := api.Msg{Status: 200}
	for i := 0; i < len(texts); i += 2 {
		m.Fields = append(m.Fields, api.Field{Name: texts[i], Value: texts[i+1]})
	}
	return m
}

// aged are times of a response that has that age at the second 0.
func aged(n int64) api.Times { return api.Times{Date: -1, Age: n} }

// P15.2: everything of a response.
func TestOf(t *testing.T) {
	m := of("Date", first, "Last-Modified", prior, "Cache-Control", "must-revalidate", "A", "1", "Cache-Control", "stale-if-error=9", "ETag", `"x"`)
	times := age.TimesOf(m, sec+1, sec+3)
	c := control.None()
	c.MustRevalidate, c.StaleIfError = true, 9
	want := api.Meta{Control: c, Times: api.Times{Asked: sec + 1, Answered: sec + 3, Date: sec, Age: 0}, Life: 100, Checked: true}
	if got := decide.Of(m, times, 0.1); got != want {
		t.Errorf("%+v, want %+v", got, want)
	}
	want.Life = 500
	if got := decide.Of(m, times, 0.5); got != want {
		t.Errorf("%+v, want %+v", got, want)
	}
	if got := decide.Of(api.Msg{}, api.Times{}, 0.1); got != (api.Meta{Control: control.None()}) {
		t.Errorf("of nothing: %+v", got)
	}
}

// P15.2: the life is that of age.Life.
func TestLifeOf(t *testing.T) {
	for _, x := range []struct {
		m    api.Msg
		part float64
		life int64
	}{
		{of(), 0.1, 0}, {of("Cache-Control", "max-age=60"), 0.1, 60}, {of("Cache-Control", "max-age=60, s-maxage=5"), 0.1, 5}, {of("Cache-Control", "max-age=60", "Cache-Control", "max-age=7"), 0.1, 7}, {of("Cache-Control", "max-age=9999999999"), 0.1, most}, {of("Cache-Control", "max-age=x"), 0.1, 0},
		{of("Date", prior, "Expires", first), 0.1, 1000}, {of("Date", prior, "Expires", "0"), 0.1, 0}, {of("Expires", first), 0.1, 0}, {of("Date", prior, "Expires", first, "Cache-Control", "max-age=60"), 0.1, 60},
		{of("Date", first, "Last-Modified", prior), 0.1, 100}, {of("Date", first, "Last-Modified", prior), 1, 1000}, {of("Date", first, "Last-Modified", prior), 0, 0}, {of("Date", first, "Last-Modified", prior), math.NaN(), 0}, {of("Date", first, "Last-Modified", prior), math.Inf(1), 1000}, {of("Date", first, "Last-Modified", prior), -0.1, 0}, {of("Last-Modified", prior), 0.1, 0},
	} {
		for _, times := range []api.Times{{}, {Asked: 7, Answered: 9, Date: 3, Age: 5}, {Asked: math.MinInt64, Answered: math.MaxInt64, Date: math.MaxInt64, Age: -1}} {
			got := decide.Of(x.m, times, x.part)
			if got.Life != x.life || got.Times != times {
				t.Errorf("Of(%q, %+v, %v) = %+v, want life %d", x.m.Fields, times, x.part, got, x.life)
			}
		}
	}
	for status, life := range map[int]int64{0: 0, 200: 100, 302: 0, 404: 100, 500: 0} {
		m := of("Date", first, "Last-Modified", prior)
		m.Status = status
		if got := decide.Of(m, api.Times{}, 0.1).Life; got != life {
			t.Errorf("%d: %d", status, got)
		}
		m.Fields = append(m.Fields, api.Field{Name: "cache-control", Value: "public"})
		if got := decide.Of(m, api.Times{}, 0.1).Life; got != 100 {
			t.Errorf("%d, public: %d", status, got)
		}
	}
}

// P15.2: a year with two digits is one near the time when the response was received, not when it was asked for.
func TestShortYearsOf(t *testing.T) {
	const short = "Sunday, 06-Nov-94 08:49:37 GMT" // in 9994, that day is a Sunday, too
	m := of("Date", first, "Expires", short)
	for _, other := range []int64{0, sec, last} {
		for answered, life := range map[int64]int64{sec: 0, 0: 0, last: most} {
			if got := decide.Of(m, api.Times{Asked: other, Answered: answered, Date: other, Age: other}, 0.1).Life; got != life {
				t.Errorf("asked %d, answered %d: life %d, want %d", other, answered, got, life)
			}
		}
	}
}

// P15.2: what it can be checked by is exactly one field of either name, whatever its value.
func TestChecked(t *testing.T) {
	for _, x := range []struct {
		m       api.Msg
		checked bool
	}{
		{of(), false}, {of("A", "1"), false}, {of("Etags", `"x"`, "X-ETag", `"x"`, "ETag ", `"x"`, "Last", prior, "Modified", prior, "If-None-Match", `"x"`), false},
		{of("ETag", `"x"`), true}, {of("etag", `W/"x"`), true}, {of("ETAG", ""), true}, {of("A", "1", "Etag", "x", "B", "2"), true}, {of("ETag", "*"), true}, {of("ETag", `"x", "y"`), true},
		{of("ETag", `"x"`, "ETag", `"x"`), false}, {of("ETag", `"x"`, "A", "1", "etag", ""), false}, {of("ETag", `"x"`, "ETag", `"y"`, "ETag", `"z"`), false},
		{of("Last-Modified", prior), true}, {of("LAST-modified", prior), true}, {of("last-modified", ""), true}, {of("A", "1", "Last-Modified", "x"), true},
		{of("Last-Modified", prior, "Last-Modified", prior), false}, {of("Last-Modified", "", "last-modified", prior, "Last-Modified", first), false},
		{of("ETag", `"x"`, "Last-Modified", prior), true}, {of("Last-Modified", prior, "ETag", `"x"`), true},
		{of("ETag", `"x"`, "ETag", `"x"`, "Last-Modified", prior), true}, {of("ETag", `"x"`, "Last-Modified", prior, "Last-Modified", prior), true}, {of("ETag", `"x"`, "ETag", `"x"`, "Last-Modified", prior, "Last-Modified", prior), false},
	} {
		for _, status := range []int{0, 200, 304, 500} {
			x.m.Status = status
			if got := decide.Of(x.m, api.Times{}, 0); got.Checked != x.checked {
				t.Errorf("%q: %v", x.m.Fields, got.Checked)
			}
		}
	}
}

// P15.2: only the fields count, not the trailers, the content or the rest of the first line.
func TestOtherPartsOfMessages(t *testing.T) {
	m := of("A", "1")
	m.Method, m.Target, m.Reason, m.Minor, m.Body = "GET", "/", first, 1, "ETag: \"x\"\r\n"
	m.Trailers = of("ETag", `"x"`, "Last-Modified", prior, "Date", first, "Cache-Control", "max-age=60, no-store").Fields
	if got := decide.Of(m, aged(7), 0.1); got != (api.Meta{Control: control.None(), Times: aged(7)}) {
		t.Errorf("%+v", got)
	}
}

// P15.2: whether it is fresh, and for how long it has not been.
func TestFreshAndStale(t *testing.T) {
	for _, x := range []struct {
		life  int64
		times api.Times
		now   int64
		fresh bool
		stale int64
	}{
		{10, aged(0), 0, true, 0}, {10, aged(9), 0, true, 0}, {10, aged(10), 0, false, 0}, {10, aged(11), 0, false, 1}, {10, aged(0), 9, true, 0}, {10, aged(0), 10, false, 0}, {10, aged(0), 11, false, 1}, {10, aged(4), 5, true, 0}, {10, aged(4), 6, false, 0}, {10, aged(4), 66, false, 60},
		{0, aged(0), 0, false, 0}, {0, aged(0), 1, false, 1}, {1, aged(0), 0, true, 0}, {1, aged(0), -7, true, 0}, {0, aged(0), -7, false, 0}, {0, aged(5), math.MinInt64, false, 5},
		// The age is that of now, not the one when it was received.
		{10, api.Times{Asked: 100, Answered: 103, Date: 101, Age: 4}, 103, true, 0}, {10, api.Times{Asked: 100, Answered: 103, Date: 101, Age: 4}, 105, true, 0}, {10, api.Times{Asked: 100, Answered: 103, Date: 101, Age: 4}, 106, false, 0}, {10, api.Times{Asked: 100, Answered: 103, Date: 101, Age: 4}, 107, false, 1}, {10, api.Times{Asked: 100, Answered: 103, Date: 90, Age: 4}, 103, false, 3}, {10, api.Times{Asked: 100, Answered: 103, Date: 90, Age: 4}, 50, false, 3},
		// At the ends of the range, and beyond them.
		{most, aged(most - 1), 0, true, 0}, {most, aged(most), 0, false, 0}, {most, aged(most), math.MaxInt64, false, 0}, {most - 1, aged(most), 0, false, 1}, {most - 1, aged(most + 5), 0, false, 1}, {0, aged(math.MaxInt64), math.MaxInt64, false, most}, {1, aged(most), 0, false, most - 1},
		{most + 1, aged(most), 0, true, 0}, {most + 1, aged(math.MaxInt64), last, true, 0}, {math.MaxInt64, aged(most), last, true, 0},
		{-1, aged(0), 0, false, 0}, {-1, aged(7), 0, false, 7}, {-most, aged(7), 0, false, 7}, {math.MinInt64, aged(0), 0, false, 0}, {math.MinInt64, aged(most), 0, false, most}, {math.MinInt64, aged(math.MinInt64), math.MinInt64, false, 0},
	} {
		m := api.Meta{Control: parsed("max-age=3"), Times: x.times, Life: x.life}
		if fresh, stale := decide.Fresh(m, x.now), decide.Stale(m, x.now); fresh != x.fresh || stale != x.stale {
			t.Errorf("%+v, %d: Fresh %v, Stale %d; want %v, %d", m, x.now, fresh, stale, x.fresh, x.stale)
		}
	}
}

// P15.2: which controls are strict.
func TestStrict(t *testing.T) {
	for told, want := range map[string]bool{
		"": false, "max-age=0": false, "max-age=60, max-stale, min-fresh=5, stale-while-revalidate=5, stale-if-error=5": false, "no-store, no-transform, only-if-cached, must-understand, public, private": false,
		"must-revalidate": true, "proxy-revalidate": true, "no-cache": true, `no-cache="x"`: true, "s-maxage=0": true, "s-maxage=60": true, "s-maxage": true, "must-revalidate, proxy-revalidate, no-cache, s-maxage=1": true, "max-stale, must-revalidate": true,
	} {
		if got := decide.Strict(parsed(told)); got != want {
			t.Errorf("%q: %v", told, got)
		}
	}
	for n, want := range map[int64]bool{math.MinInt64: false, -most: false, -2: false, -1: false, 0: true, 1: true, most: true, most + 1: true, math.MaxInt64: true} {
		c := control.None()
		c.SMaxAge = n
		if got := decide.Strict(c); got != want {
			t.Errorf("SMaxAge %d: %v", n, got)
		}
		c = api.Control{MaxAge: n, SMaxAge: -1, MaxStale: n, MinFresh: n, StaleWhile: n, StaleIfError: n, Public: true, Private: true, NoStore: true}
		if decide.Strict(c) {
			t.Errorf("strict: %+v", c)
		}
	}
}
