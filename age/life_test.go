package age_test

import (
	"math"
	"testing"

	"halfwayhouse/age"
	"halfwayhouse/api"
	"halfwayhouse/control"
	"halfwayhouse/method"
)

// day is the longest guess.
const day = 86400

// P14.2: guesses.
func TestGuess(t *testing.T) {
	minus, infinite, tiny := math.Copysign(0, -1), math.Inf(1), math.SmallestNonzeroFloat64
	for _, x := range []struct {
		part float64
		span int64
		life int64
	}{
		// The examples of the document.
		{0.1, 864000, 86400}, {math.NaN(), 5, 0},
		{0.1, 1000, 100}, {0.5, 10, 5}, {0.5, 11, 5}, {0.5, 1, 0}, {0.25, 7, 1}, {0.25, 8, 2}, {1, 1, 1}, {1, 60, 60}, {0.75, 5, 3}, {1.0 / 3, 3, 1}, {0.999, 1, 0}, {0.999, 1000, 999}, {0.001, 999, 0}, {0.001, 1000, 1},
		// The product is rounded before it is truncated: 0.3, 0.7 and 0.35 are a little below what is written here, their products are not.
		{0.3, 10, 3}, {0.29, 100, 28}, {0.57, 100, 56}, {0.1, 3, 0}, {0.7, 10, 7}, {0.35, 20, 7},
		// Nothing.
		{0.1, 0, 0}, {0.1, -1, 0}, {1, -1000, 0}, {0.1, math.MinInt64, 0}, {1, 0, 0}, {infinite, 0, 0}, {infinite, -1, 0},
		{0, 864000, 0}, {minus, 864000, 0}, {-0.1, 864000, 0}, {-1, 864000, 0}, {-tiny, most, 0}, {math.Inf(-1), 5, 0}, {-math.MaxFloat64, most, 0}, {-1, -10, 0}, {-0.5, math.MinInt64, 0}, {math.NaN(), most, 0}, {-math.NaN(), 10, 0}, {math.NaN(), -1, 0},
		{tiny, 1, 0}, {tiny, math.MaxInt64, 0}, {1e-300, most, 0}, {math.Nextafter(1, 0), 1, 0}, {math.Nextafter(1, 2), 1, 1},
		// At most a day.
		{1, day - 1, day - 1}, {1, day, day}, {1, day + 1, day}, {0.1, 864009, day}, {0.1, 864010, day}, {0.1, 863999, day - 1}, {0.5, 2*day - 1, day - 1}, {0.5, 2 * day, day}, {0.5, 2*day + 2, day}, {1, most, day}, {1, math.MaxInt64, day}, {0.9, math.MaxInt64, day},
		// A part above 1 counts as 1.
		{2, 10, 10}, {1.5, 7, 7}, {math.Nextafter(1, 2), 1000, 1000}, {infinite, 10, 10}, {math.MaxFloat64, 10, 10}, {1e300, day - 1, day - 1}, {infinite, math.MaxInt64, day}, {2, day/2 + 1, day/2 + 1},
		// A span above the greatest number of seconds counts as that.
		{0.00001, most, 21474}, {0.00001, most + 1, 21474}, {0.00001, most + 100000, 21474}, {0.00001, 2 * most, 21474}, {0.00001, math.MaxInt64, 21474}, {0.00001, most - 100000, 21473}, {1.0 / most, most, 1}, {1.0 / most, most + 1, 1}, {1.0 / most, 3 * most, 1}, {1.0 / most, most - 1, 0}, {1.0 / most, 1<<32 + 1, 1},
	} {
		if got := age.Guess(x.part, x.span); got != x.life {
			t.Errorf("Guess(%v, %d) = %d, want %d", x.part, x.span, got, x.life)
		}
	}
}

// told returns what a response with these times and that status says, with the changes that edit makes to it.
func told(date, expires, last int64, status int, edit func(c *api.Control)) api.Told {
	c := control.None()
	edit(&c)
	return api.Told{Control: c, Date: date, Expires: expires, Last: last, Status: status}
}

func nothing(*api.Control)       {}
func public(c *api.Control)      { c.Public = true }
func shared5(c *api.Control)     { c.SMaxAge = 5 }
func private9(c *api.Control)    { c.MaxAge = 9 }
func both(c *api.Control)        { c.SMaxAge, c.MaxAge = 5, 9 }
func zero(c *api.Control)        { c.MaxAge = 0 }
func sharedZero(c *api.Control)  { c.SMaxAge, c.MaxAge = 0, 9 }
func tooGreat(c *api.Control)    { c.MaxAge = most + 1 }
func sharedGreat(c *api.Control) { c.SMaxAge = math.MaxInt64 }
func below(c *api.Control)       { c.SMaxAge, c.MaxAge = -2, math.MinInt64 }

// others sets all of a control that says nothing about the life.
func others(c *api.Control) {
	*c = api.Control{MaxAge: -1, SMaxAge: -1, MaxStale: 100, MinFresh: 100, StaleWhile: 100, StaleIfError: 100, NoCache: true, NoStore: true, NoTransform: true, OnlyIfCached: true, MustRevalidate: true, ProxyRevalidate: true, MustUnderstand: true, Private: true}
}

// P14.2: the life of a response.
func TestLife(t *testing.T) {
	for i, x := range []struct {
		told api.Told
		life int64
	}{
		{told(-1, -1, -1, 200, nothing), 0}, {told(100, -1, -1, 200, nothing), 0}, {told(-1, -1, -1, 0, others), 0},
		// Of the control.
		{told(-1, -1, -1, 0, shared5), 5}, {told(-1, -1, -1, 0, private9), 9}, {told(-1, -1, -1, 0, both), 5}, {told(-1, -1, -1, 0, zero), 0}, {told(-1, -1, -1, 0, sharedZero), 0},
		{told(-1, -1, -1, 0, tooGreat), most}, {told(-1, -1, -1, 0, sharedGreat), most}, {told(-1, -1, -1, 0, below), 0},
		{told(100, 150, 0, 200, shared5), 5}, {told(100, 150, 0, 200, private9), 9}, {told(100, 150, 0, 200, zero), 0}, {told(100, 150, 0, 200, sharedZero), 0}, {told(100, 150, 0, 200, below), 50},
		{told(100, 150, 0, 200, tooGreat), most}, {told(100, 150, 0, 200, sharedGreat), most},
		// Of Expires.
		{told(100, 150, -1, 200, nothing), 50}, {told(100, 150, 0, 200, nothing), 50}, {told(100, 150, 0, 200, public), 50}, {told(100, 150, 0, 500, others), 50}, {told(100, 100, 0, 200, nothing), 0}, {told(100, 99, 0, 200, nothing), 0}, {told(100, 0, 0, 200, nothing), 0}, {told(0, 0, 0, 200, nothing), 0}, {told(0, 1, -1, 200, nothing), 1},
		{told(-1, 150, -1, 200, nothing), 0}, {told(-1, 150, 0, 200, nothing), 0}, {told(-1, 150, 0, 200, public), 0}, {told(-1, 0, 0, 200, public), 0}, {told(math.MinInt64, math.MaxInt64, 0, 200, nothing), 0}, {told(-5, 5, 0, 200, nothing), 0},
		{told(0, most, -1, 200, nothing), most}, {told(0, most+1, -1, 200, nothing), most}, {told(5, most+1, -1, 200, nothing), most - 4}, {told(0, math.MaxInt64, -1, 200, nothing), most}, {told(last-3, math.MaxInt64, -1, 200, nothing), 3}, {told(last-3, last+1, -1, 200, nothing), 3}, {told(math.MaxInt64, last, -1, 200, nothing), 0}, {told(200000000000, 200000000060, -1, 200, nothing), 60},
		// Guesses.
		{told(1000, -1, 0, 200, nothing), 100}, {told(1000, -1, 500, 200, nothing), 50}, {told(1000, -1, 1000, 200, nothing), 0}, {told(1000, -1, 1001, 200, nothing), 0}, {told(0, -1, 0, 200, nothing), 0}, {told(1000, -1, 0, 404, nothing), 100}, {told(1000, -2, 0, 200, nothing), 100}, {told(1000, math.MinInt64, 0, 200, others), 100},
		{told(1000, -1, 0, 302, nothing), 0}, {told(1000, -1, 0, 302, others), 0}, {told(1000, -1, 0, 302, public), 100}, {told(1000, -1, 0, 0, public), 100}, {told(1000, -1, 0, 500, nothing), 0}, {told(1000, -1, 0, 0, nothing), 0}, {told(1000, -1, 0, 200, public), 100},
		{told(1000, -1, -1, 200, nothing), 0}, {told(1000, -1, -1, 200, public), 0}, {told(-1, -1, 0, 200, nothing), 0}, {told(-1, -1, 0, 200, public), 0}, {told(-1, -1, 0, 302, public), 0}, {told(-1000, -1, -2000, 200, nothing), 0}, {told(1000, -1, math.MinInt64, 302, public), 0},
		{told(864000, -1, 0, 200, nothing), day}, {told(last, -1, 0, 200, nothing), day}, {told(math.MaxInt64, -1, 0, 200, nothing), day}, {told(last+50, -1, last-30, 200, nothing), 3}, {told(200000000060, -1, 200000000000, 200, nothing), 6},
	} {
		if got := age.Life(x.told, 0.1); got != x.life {
			t.Errorf("%d: Life(%+v) = %d, want %d", i, x.told, got, x.life)
		}
	}
}

// P14.2: which statuses let a life be guessed.
func TestLifeOfEveryStatus(t *testing.T) {
	for status := -10; status <= 1000; status++ {
		want := int64(0)
		if method.Heuristic(status) {
			want = 100
		}
		if got := age.Life(told(1000, -1, 0, status, nothing), 0.1); got != want {
			t.Errorf("%d: %d, want %d", status, got, want)
		}
		if got := age.Life(told(1000, -1, 0, status, public), 0.1); got != 100 {
			t.Errorf("%d, public: %d", status, got)
		}
	}
}

// P14.2: the part counts in guesses alone.
func TestLifeOfOtherParts(t *testing.T) {
	for _, x := range []struct {
		part float64
		life int64
	}{{0, 0}, {math.NaN(), 0}, {-1, 0}, {math.Copysign(0, -1), 0}, {0.5, 500}, {1, 1000}, {7, 1000}, {math.Inf(1), 1000}, {math.Inf(-1), 0}} {
		if got := age.Life(told(1000, -1, 0, 200, nothing), x.part); got != x.life {
			t.Errorf("guess by %v: %d, want %d", x.part, got, x.life)
		}
		if got := age.Life(told(1000, 1060, 0, 200, nothing), x.part); got != 60 {
			t.Errorf("Expires, with %v: %d", x.part, got)
		}
		if got := age.Life(told(1000, 1060, 0, 200, private9), x.part); got != 9 {
			t.Errorf("max-age, with %v: %d", x.part, got)
		}
		if got := age.Life(told(1000, 1060, 0, 200, both), x.part); got != 5 {
			t.Errorf("s-maxage, with %v: %d", x.part, got)
		}
	}
}
