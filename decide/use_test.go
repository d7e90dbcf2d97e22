package decide_test

import (
	"math"
	"testing"

	"halfwayhouse/api"
	"halfwayhouse/decide"
)

// meta is a stored response with that life and that age at the second 0.
func meta(told string, life, now int64) api.Meta {
	return api.Meta{Control: parsed(told), Times: aged(now), Life: life}
}

// The names of the uses, as they stand in the tables.
const (
	fresh = api.UseFresh
	stale = api.UseStale
	while = api.UseWhile
	check = api.UseCheck
	none  = api.UseNone
)

// P15.3: what is done with a response whose life is 10.
func TestUse(t *testing.T) {
	for _, x := range []struct {
		told, asked string
		age         int64
		use         int
	}{
		{"", "", 0, fresh}, {"", "", 9, fresh}, {"", "", 10, check}, {"", "", 11, check}, {"", "only-if-cached", 9, fresh}, {"", "only-if-cached", 10, none},
		// Something asks for a check, however fresh it is.
		{"", "no-cache", 0, check}, {"no-cache", "", 0, check}, {"no-cache", "no-cache", 0, check}, {`no-cache="a"`, "", 0, check}, {"", "no-cache, only-if-cached", 0, none}, {"no-cache", "only-if-cached", 0, none}, {"", "no-cache, max-stale", 20, check}, {"no-cache", "max-stale", 20, check}, {"no-cache, stale-while-revalidate=99", "", 20, check}, {"no-cache, stale-while-revalidate=99", "max-stale, only-if-cached", 20, none}, {"stale-while-revalidate=99", "no-cache", 20, check}, {"stale-while-revalidate=99", "no-cache, only-if-cached", 20, none},
		// Only the request can have only-if-cached.
		{"only-if-cached", "", 20, check}, {"only-if-cached, no-cache", "", 0, check}, {"only-if-cached", "no-cache", 0, check},
		// Other directives that do not matter.
		{"no-store, private, must-revalidate, proxy-revalidate, s-maxage=1, max-age=0, min-fresh=9, max-stale=0", "no-store, must-revalidate, proxy-revalidate, private, s-maxage=0, stale-while-revalidate=0, stale-if-error=0", 9, fresh}, {"max-age=0, min-fresh=99", "max-stale=5", 15, stale}, {"max-stale, stale-if-error=99", "stale-while-revalidate=99, stale-if-error=99", 10, check}, {"no-store, private, public, must-understand, no-transform", "max-stale", 99, stale},
		// How old and how fresh the request wants it.
		{"", "max-age=9", 9, fresh}, {"", "max-age=8", 9, check}, {"", "max-age=0", 0, fresh}, {"", "max-age=0", 1, check}, {"", "max-age=8, only-if-cached", 9, none}, {"", "max-age=99", 9, fresh}, {"", "max-age=99", 10, check},
		{"", "min-fresh=0", 9, fresh}, {"", "min-fresh=1", 9, fresh}, {"", "min-fresh=2", 9, check}, {"", "min-fresh=10", 0, fresh}, {"", "min-fresh=11", 0, check}, {"", "min-fresh=2, only-if-cached", 9, none}, {"", "max-age=9, min-fresh=1", 9, fresh}, {"", "max-age=8, min-fresh=1", 9, check}, {"", "max-age=9, min-fresh=2", 9, check}, {"", "min-fresh=0", 10, check},
		// A fresh response is not used as a stale one.
		{"stale-while-revalidate=99", "max-age=8, max-stale", 9, check}, {"stale-while-revalidate=99", "min-fresh=2, max-stale", 9, check}, {"", "min-fresh=2, max-stale, only-if-cached", 9, none},
		// How stale the request accepts it.
		{"", "max-stale", 10, stale}, {"", "max-stale", 100, stale}, {"", "max-stale=0", 10, stale}, {"", "max-stale=0", 11, check}, {"", "max-stale=5", 15, stale}, {"", "max-stale=5", 16, check}, {"", "max-stale=5, only-if-cached", 15, stale}, {"", "max-stale=5, only-if-cached", 16, none}, {"", "max-stale=5", 9, fresh},
		{"", "max-stale, max-age=15", 15, stale}, {"", "max-stale, max-age=14", 15, check}, {"", "max-stale, max-age=9", 10, check}, {"", "max-stale=5, min-fresh=99", 15, stale}, {"", "max-stale=5, min-fresh=99", 16, check}, {"", "max-stale=5, min-fresh=99, max-age=15", 15, stale},
		{"must-revalidate", "max-stale", 10, check}, {"proxy-revalidate", "max-stale", 10, check}, {"s-maxage=10", "max-stale", 10, check}, {"s-maxage=0", "max-stale, only-if-cached", 10, none}, {"max-age=10", "max-stale", 10, stale}, {"", "max-stale, must-revalidate, proxy-revalidate, s-maxage=1", 10, stale},
		// How stale the response allows itself to be.
		{"stale-while-revalidate=5", "", 9, fresh}, {"stale-while-revalidate=5", "", 10, while}, {"stale-while-revalidate=5", "", 15, while}, {"stale-while-revalidate=5", "", 16, check}, {"stale-while-revalidate=0", "", 10, while}, {"stale-while-revalidate=0", "", 11, check}, {"stale-while-revalidate=5", "only-if-cached", 15, while}, {"stale-while-revalidate=5", "only-if-cached", 16, none},
		{"stale-while-revalidate=5", "max-age=99", 12, check}, {"stale-while-revalidate=5", "min-fresh=0", 12, check}, {"stale-while-revalidate=5", "max-age=0, only-if-cached", 12, none}, {"stale-while-revalidate=5", "max-age=99, min-fresh=0", 12, check}, {"stale-while-revalidate=5", "max-stale=1", 12, while}, {"stale-while-revalidate=5", "max-stale=2", 12, stale}, {"stale-while-revalidate=5", "max-stale=2, min-fresh=0, max-age=99", 12, stale}, {"stale-while-revalidate=5", "max-stale=1, min-fresh=0", 12, check},
		{"stale-while-revalidate=5, must-revalidate", "", 12, check}, {"stale-while-revalidate=5, proxy-revalidate", "", 12, check}, {"stale-while-revalidate=5, s-maxage=10", "", 12, check}, {"stale-while-revalidate=5, must-revalidate", "only-if-cached", 12, none}, {"stale-while-revalidate=5, max-age=10", "", 12, while},
		{"", "stale-while-revalidate=99", 12, check},
	} {
		m := meta(x.told, 10, x.age)
		if got := decide.Use(m, parsed(x.asked), 0); got != x.use {
			t.Errorf("%q, age %d, asked %q: %d, want %d", x.told, x.age, x.asked, got, x.use)
		}
		// Whether it can be checked does not matter, nor why it is that old.
		m.Checked = true
		for _, times := range []api.Times{{Asked: 100, Answered: 100, Date: -1, Age: x.age}, {Asked: 100 - x.age, Answered: 100, Date: 100}, {Asked: 100, Answered: 100, Date: 100 - x.age}, {Asked: 100 - x.age, Answered: 100 - x.age, Date: 100}} {
			m.Times = times
			if got := decide.Use(m, parsed(x.asked), 100); got != x.use {
				t.Errorf("%q, %+v, asked %q: %d, want %d", x.told, times, x.asked, got, x.use)
			}
		}
	}
}

// P15.3: at the ends of the range of seconds, and beyond them.
func TestUseOfGreatNumbers(t *testing.T) {
	const far = math.MaxInt64
	limit := func(set func(c *api.Control)) api.Control {
		c := parsed("")
		set(&c)
		return c
	}
	maxAge := func(n int64) api.Control { return limit(func(c *api.Control) { c.MaxAge = n }) }
	minFresh := func(n int64) api.Control { return limit(func(c *api.Control) { c.MinFresh = n }) }
	maxStale := func(n int64) api.Control { return limit(func(c *api.Control) { c.MaxStale = n }) }
	for _, x := range []struct {
		life, age int64
		asked     api.Control
		use       int
	}{
		{most, most - 1, parsed(""), fresh}, {most, most, parsed(""), check}, {most + 1, most, parsed(""), fresh}, {far, far, parsed(""), fresh}, {-1, 0, parsed(""), check}, {math.MinInt64, 0, parsed(""), check}, {0, 0, parsed(""), check},
		{far, 7, maxAge(7), fresh}, {far, 7, maxAge(6), check}, {far, most, maxAge(most), fresh}, {far, far, maxAge(most), fresh}, {far, most, maxAge(most - 1), check}, {far, most, maxAge(far), fresh}, {far, most, maxAge(-1), fresh}, {far, most, maxAge(-2), fresh}, {far, most, maxAge(math.MinInt64), fresh}, {far, 0, maxAge(0), fresh},
		// What is left is at most MaxDelta.
		{far, 7, minFresh(most - 7), fresh}, {far, 7, minFresh(most - 6), check}, {most, 0, minFresh(most), fresh}, {far, 0, minFresh(most), fresh}, {far, 0, minFresh(most + 1), check}, {far, 0, minFresh(far), check}, {far, most, minFresh(0), fresh}, {far, most, minFresh(1), check}, {far, most, minFresh(-1), fresh}, {far, most, minFresh(math.MinInt64), fresh},
		{0, most, maxStale(most), stale}, {0, far, maxStale(most), stale}, {0, far, maxStale(far), stale}, {0, most, maxStale(most - 1), check}, {1, most, maxStale(most - 1), stale}, {2, most, maxStale(most - 1), stale}, {math.MinInt64, most, maxStale(most), stale}, {math.MinInt64, most, maxStale(most - 1), check}, {0, 0, maxStale(0), stale}, {0, 0, maxStale(-1), check}, {0, 0, maxStale(-2), check}, {0, 0, maxStale(math.MinInt64), check}, {most, most, maxStale(0), stale},
	} {
		if got := decide.Use(meta("", x.life, x.age), x.asked, 0); got != x.use {
			t.Errorf("life %d, age %d, asked %+v: %d, want %d", x.life, x.age, x.asked, got, x.use)
		}
	}
	for _, x := range []struct {
		life, age, limit int64
		use              int
	}{
		{0, most, most, while}, {0, far, most, while}, {0, far, far, while}, {0, most, most - 1, check}, {1, most, most - 1, while}, {0, 0, 0, while}, {0, 0, -1, check}, {0, 0, -2, check}, {0, 0, math.MinInt64, check}, {math.MinInt64, most, most - 1, check},
	} {
		m := meta("", x.life, x.age)
		m.Control.StaleWhile = x.limit
		if got := decide.Use(m, parsed(""), 0); got != x.use {
			t.Errorf("life %d, age %d, while %d: %d, want %d", x.life, x.age, x.limit, got, x.use)
		}
		// Limits of the request that are below 0 are not there.
		for _, no := range []int64{-2, -most, math.MinInt64} {
			asked := api.Control{MaxAge: no, SMaxAge: no, MaxStale: no, MinFresh: no, StaleWhile: no, StaleIfError: no}
			if got := decide.Use(m, asked, 0); got != x.use {
				t.Errorf("life %d, age %d, while %d, asked %d: %d, want %d", x.life, x.age, x.limit, no, got, x.use)
			}
		}
	}
}

// P15.3: the time passes.
func TestUseAsTimePasses(t *testing.T) {
	m := api.Meta{Control: parsed("max-age=10, stale-while-revalidate=5"), Times: api.Times{Asked: 100, Answered: 103, Date: 101, Age: 4}, Life: 10}
	for now := int64(90); now < 130; now++ {
		want, accepted := check, stale
		switch {
		case now < 106: // its age was 7 when it was received, at 103
			want, accepted = fresh, fresh
		case now < 112:
			want = while
		}
		if now >= 114 {
			accepted = check
		}
		if got := decide.Use(m, parsed(""), now); got != want {
			t.Errorf("%d: %d, want %d", now, got, want)
		}
		if got := decide.Use(m, parsed("max-stale=7"), now); got != accepted {
			t.Errorf("%d, max-stale: %d, want %d", now, got, accepted)
		}
	}
}

// P15.3: which responses are used after a failure.
func TestOnError(t *testing.T) {
	for _, x := range []struct {
		told, asked string
		age         int64
		used        bool
	}{
		{"", "", 0, true}, {"", "", 9, true}, {"", "", 10, false}, {"", "", 11, false}, {"", "max-stale, stale-while-revalidate=99", 10, false}, {"stale-while-revalidate=99, max-stale", "", 10, false},
		{"stale-if-error=5", "", 10, true}, {"stale-if-error=5", "", 15, true}, {"stale-if-error=5", "", 16, false}, {"stale-if-error=0", "", 10, true}, {"stale-if-error=0", "", 11, false},
		{"", "stale-if-error=5", 15, true}, {"", "stale-if-error=5", 16, false}, {"", "stale-if-error=0", 10, true}, {"", "stale-if-error=0", 11, false},
		{"stale-if-error=5", "stale-if-error=3", 15, true}, {"stale-if-error=3", "stale-if-error=5", 15, true}, {"stale-if-error=5", "stale-if-error=3", 16, false}, {"stale-if-error=3", "stale-if-error=5", 16, false}, {"stale-if-error=0", "stale-if-error=0", 10, true},
		// A strict control of the response; that of the request does not matter.
		{"must-revalidate, stale-if-error=5", "stale-if-error=5", 9, true}, {"must-revalidate, stale-if-error=5", "stale-if-error=5", 10, false}, {"proxy-revalidate, stale-if-error=5", "", 10, false}, {"no-cache, stale-if-error=5", "", 10, false}, {"s-maxage=10, stale-if-error=5", "", 10, false}, {"s-maxage=0", "stale-if-error=5", 10, false}, {"no-cache", "", 9, true}, {"s-maxage=10", "", 9, true},
		{"stale-if-error=5", "must-revalidate, proxy-revalidate, no-cache, s-maxage=0", 15, true}, {"stale-if-error=5", "max-age=0, min-fresh=99, no-store, only-if-cached", 15, true}, {"", "max-age=0, min-fresh=99, no-cache", 9, true}, {"no-store, private, max-age=0, must-understand, stale-if-error=5", "", 15, true},
	} {
		if got := decide.OnError(meta(x.told, 10, x.age), parsed(x.asked), 0); got != x.used {
			t.Errorf("%q, age %d, asked %q: %v", x.told, x.age, x.asked, got)
		}
		if got := decide.OnError(meta(x.told, 10, 0), parsed(x.asked), x.age); got != x.used {
			t.Errorf("%q, now %d, asked %q: %v", x.told, x.age, x.asked, got)
		}
	}
}

// P15.3: limits after a failure, at the ends of the range and beyond them.
func TestOnErrorOfGreatNumbers(t *testing.T) {
	for _, x := range []struct {
		life, age, told, asked int64
		used                   bool
	}{
		{0, 0, -1, -1, false}, {0, 0, -2, math.MinInt64, false}, {0, 0, math.MinInt64, math.MinInt64, false}, {0, 0, math.MinInt64, 0, true}, {0, 0, 0, math.MinInt64, true}, {0, 7, -1, 7, true}, {0, 7, 7, -9, true}, {0, 7, 6, -1, false}, {0, 7, -1, 6, false},
		{0, most, most, -1, true}, {0, most, -1, most, true}, {0, most, most - 1, most - 1, false}, {0, math.MaxInt64, most, 0, true}, {0, math.MaxInt64, -1, math.MaxInt64, true}, {-1, 0, -1, -1, false}, {math.MinInt64, 0, -1, 0, true}, {math.MinInt64, 5, 4, 4, false},
		{most, most, -1, -1, false}, {most, most, 0, -1, true}, {most + 1, most, -1, -1, true}, {math.MaxInt64, math.MaxInt64, -1, -1, true}, {1, most, most - 1, 0, true}, {1, most, most - 2, 0, false},
	} {
		m, asked := meta("", x.life, x.age), parsed("")
		m.Control.StaleIfError, asked.StaleIfError = x.told, x.asked
		if got := decide.OnError(m, asked, 0); got != x.used {
			t.Errorf("life %d, age %d, told %d, asked %d: %v", x.life, x.age, x.told, x.asked, got)
		}
		m.Control.MustRevalidate = true
		if got, want := decide.OnError(m, asked, 0), x.life > most; got != want {
			t.Errorf("strict, life %d, age %d, told %d, asked %d: %v", x.life, x.age, x.told, x.asked, got)
		}
	}
}

// The examples of the document.
func TestExamples(t *testing.T) {
	for _, x := range []struct {
		told     string
		age      int64
		use      int
		constant int
	}{{"", 9, api.UseFresh, 1}, {"", 10, api.UseCheck, 4}, {"stale-while-revalidate=5", 10, api.UseWhile, 3}} {
		if got := decide.Use(meta(x.told, 10, x.age), parsed(""), 0); got != x.use || got != x.constant {
			t.Errorf("%q, age %d: %d, want %d", x.told, x.age, got, x.use)
		}
	}
}
