package age_test

import (
	"math"
	"testing"

	"halfwayhouse/age"
	"halfwayhouse/api"
)

// The greatest number of seconds, and the last time.
const (
	most = api.MaxDelta
	last = api.MaxTime
)

// P14.1: sums, at the ends of the range and beyond them.
func TestAddAndSub(t *testing.T) {
	for _, x := range []struct{ a, b, sum, rest int64 }{
		{0, 0, 0, 0}, {1, 0, 1, 1}, {0, 1, 1, 0}, {5, 3, 8, 2}, {3, 5, 8, 0}, {60, 60, 120, 0},
		{most, 0, most, most}, {0, most, most, 0}, {most, 1, most, most - 1}, {1, most, most, 0}, {most, most, most, 0},
		{most - 1, 1, most, most - 2}, {most - 1, 2, most, most - 3}, {most - 2, 1, most - 1, most - 3}, {1 << 30, 1 << 30, most, 0}, {1 << 30, 1<<30 - 1, most - 1, 1},
		// What is outside the range counts as its end.
		{most + 1, 0, most, most}, {most + 5, 3, most, most - 3}, {3, most + 5, most, 0}, {most + 1, most, most, 0}, {2*most + 7, most - 1, most, 1},
		{-1, 0, 0, 0}, {0, -1, 0, 0}, {-1, 5, 5, 0}, {5, -1, 5, 5}, {-5, -7, 0, 0}, {-1, most, most, 0}, {most, -1, most, most}, {-1, most + 1, most, 0},
		{math.MaxInt64, 0, most, most}, {math.MaxInt64, math.MaxInt64, most, 0}, {math.MaxInt64, 1, most, most - 1}, {1, math.MaxInt64, most, 0}, {math.MaxInt64, math.MinInt64, most, most},
		{math.MinInt64, 0, 0, 0}, {math.MinInt64, math.MinInt64, 0, 0}, {math.MinInt64, 7, 7, 0}, {7, math.MinInt64, 7, 7}, {math.MinInt64, math.MaxInt64, most, 0}, {math.MinInt64 + 1, 1, 1, 0},
		{1 << 32, 1, most, most - 1}, {1<<32 + 5, 3, most, most - 3}, {-(1 << 32), 5, 5, 0}, {last, last, most, 0},
	} {
		if sum, rest := age.Add(x.a, x.b), age.Sub(x.a, x.b); sum != x.sum || rest != x.rest {
			t.Errorf("of %d and %d: Add %d, Sub %d, want %d, %d", x.a, x.b, sum, rest, x.sum, x.rest)
		}
	}
}

// P14.1: the age by the Date alone.
func TestApparent(t *testing.T) {
	for _, x := range []struct{ answered, date, age int64 }{
		{100, 100, 0}, {100, 99, 1}, {100, 40, 60}, {100, 0, 100}, {100, 101, 0}, {100, 1 << 40, 0}, {0, 0, 0},
		{most, 0, most}, {most, 1, most - 1}, {most + 1, 0, most}, {most + 1, 1, most}, {most + 2, 1, most}, {most + 5, 10, most - 5}, {last, last - 3, 3}, {last, last - most, most}, {last, last - most + 1, most - 1}, {last, 0, most},
		// Times of now, which are above the greatest number of seconds soon.
		{1800000000, 1799999990, 10}, {2 * most, 2*most - 9, 9}, {200000000000, 200000000000 - 77, 77},
		// There is no Date.
		{100, -1, 0}, {most, -1, 0}, {last, -2, 0}, {math.MaxInt64, math.MinInt64, 0},
		// Times outside the range.
		{-1, 0, 0}, {-1, 5, 0}, {-5, -9, 0}, {math.MinInt64, 0, 0}, {math.MinInt64, last, 0}, {last + 1, last, 0}, {last + 9, last - 3, 3}, {math.MaxInt64, last, 0}, {math.MaxInt64, last - 8, 8}, {math.MaxInt64, 0, most},
		{last, last + 1, 0}, {5, math.MaxInt64, 0}, {last + 5, last + 2, 0}, {math.MaxInt64, math.MaxInt64 - 5, 0},
	} {
		// Neither the Age nor the time when it was asked for counts.
		for _, other := range []int64{0, 7, -1, math.MaxInt64, math.MinInt64} {
			times := api.Times{Asked: other, Answered: x.answered, Date: x.date, Age: other}
			if got := age.Apparent(times); got != x.age {
				t.Errorf("Apparent(%+v) = %d, want %d", times, got, x.age)
			}
		}
	}
}

// P14.1: the age when the response was received, by its Date or by its Age.
func TestCorrected(t *testing.T) {
	for _, x := range []struct {
		times api.Times
		age   int64
	}{
		{api.Times{}, 0},
		{api.Times{Asked: 100, Answered: 103, Date: 103}, 3}, {api.Times{Asked: 100, Answered: 103, Date: 101}, 3}, {api.Times{Asked: 100, Answered: 103, Date: 100}, 3}, {api.Times{Asked: 100, Answered: 103, Date: 99}, 4}, {api.Times{Asked: 100, Answered: 103, Date: 3}, 100},
		{api.Times{Asked: 100, Answered: 103, Date: 103, Age: 10}, 13}, {api.Times{Asked: 100, Answered: 103, Date: 91, Age: 10}, 13}, {api.Times{Asked: 100, Answered: 103, Date: 90, Age: 10}, 13}, {api.Times{Asked: 100, Answered: 103, Date: 89, Age: 10}, 14}, {api.Times{Asked: 100, Answered: 103, Date: 0, Age: 10}, 103},
		{api.Times{Asked: 100, Answered: 100, Date: 95, Age: 4}, 5}, {api.Times{Asked: 100, Answered: 100, Date: 95, Age: 6}, 6}, {api.Times{Asked: 100, Answered: 100, Date: 200, Age: 6}, 6},
		// There is no Date.
		{api.Times{Asked: 100, Answered: 103, Date: -1}, 3}, {api.Times{Asked: 100, Answered: 103, Date: -1, Age: 10}, 13}, {api.Times{Asked: 100, Answered: 100, Date: -7}, 0},
		// The clock was set back.
		{api.Times{Asked: 103, Answered: 100, Date: 100}, 0}, {api.Times{Asked: 103, Answered: 100, Date: 98}, 2}, {api.Times{Asked: 103, Answered: 100, Date: -1, Age: 5}, 5}, {api.Times{Asked: math.MaxInt64, Answered: math.MinInt64, Date: last, Age: 5}, 5},
		// At the ends of the range, and beyond them.
		{api.Times{Answered: 1, Date: -1, Age: most - 1}, most}, {api.Times{Answered: 1, Date: -1, Age: most - 2}, most - 1}, {api.Times{Answered: 1, Date: -1, Age: most}, most}, {api.Times{Answered: 1, Date: -1, Age: math.MaxInt64}, most}, {api.Times{Answered: 1, Date: -1, Age: -5}, 1}, {api.Times{Answered: 3, Date: 0, Age: math.MinInt64}, 3},
		{api.Times{Answered: most, Date: -1}, most}, {api.Times{Answered: most + 1, Date: -1}, most}, {api.Times{Answered: math.MaxInt64, Date: -1, Age: math.MaxInt64}, most}, {api.Times{Asked: math.MinInt64, Answered: math.MaxInt64, Date: -1}, most}, {api.Times{Asked: math.MinInt64, Answered: 7, Date: -1}, 7},
		{api.Times{Asked: last - 2, Answered: last, Date: last, Age: 1}, 3}, {api.Times{Asked: last - 2, Answered: last + 50, Date: last, Age: 1}, 3}, {api.Times{Asked: last + 1, Answered: last + 50, Date: -1, Age: 1}, 1},
	} {
		if got := age.Corrected(x.times); got != x.age {
			t.Errorf("Corrected(%+v) = %d, want %d", x.times, got, x.age)
		}
	}
}

// P14.1: the age now.
func TestCurrent(t *testing.T) {
	for _, x := range []struct {
		times api.Times
		now   int64
		age   int64
	}{
		{api.Times{}, 0, 0}, {api.Times{}, 5, 5}, {api.Times{}, -5, 0},
		{api.Times{Asked: 100, Answered: 103, Date: 102, Age: 10}, 103, 13}, {api.Times{Asked: 100, Answered: 103, Date: 102, Age: 10}, 104, 14}, {api.Times{Asked: 100, Answered: 103, Date: 102, Age: 10}, 163, 73}, {api.Times{Asked: 100, Answered: 103, Date: 3, Age: 10}, 163, 160}, {api.Times{Asked: 100, Answered: 103, Date: -1}, 104, 4},
		// Now is before the response was received.
		{api.Times{Asked: 100, Answered: 103, Date: 102, Age: 10}, 102, 13}, {api.Times{Asked: 100, Answered: 103, Date: 102, Age: 10}, 0, 13}, {api.Times{Asked: 100, Answered: 103, Date: 102, Age: 10}, math.MinInt64, 13},
		// At the ends of the range, and beyond them.
		{api.Times{Date: -1, Age: most - 1}, 1, most}, {api.Times{Date: -1, Age: most - 1}, 2, most}, {api.Times{Date: -1, Age: most - 2}, 1, most - 1}, {api.Times{Date: -1, Age: most}, 0, most}, {api.Times{Date: -1, Age: most}, math.MaxInt64, most},
		{api.Times{Date: -1}, most, most}, {api.Times{Date: -1}, most - 1, most - 1}, {api.Times{Date: -1}, most + 1, most}, {api.Times{Date: -1}, math.MaxInt64, most},
		{api.Times{Asked: last, Answered: last, Date: last}, last + 1, 0}, {api.Times{Asked: last, Answered: last, Date: last}, math.MaxInt64, 0}, {api.Times{Asked: last - 5, Answered: last - 5, Date: last - 5}, last + 1, 5}, {api.Times{Asked: last - 5, Answered: last - 5, Date: last - 5}, last - 1, 4},
		{api.Times{Asked: -9, Answered: -5, Date: -1}, 3, 3}, {api.Times{Asked: math.MinInt64, Answered: math.MinInt64, Date: math.MinInt64, Age: math.MinInt64}, math.MaxInt64, most}, {api.Times{Asked: math.MaxInt64, Answered: math.MaxInt64, Date: math.MaxInt64, Age: math.MaxInt64}, math.MinInt64, most},
		{api.Times{Asked: 200000000000, Answered: 200000000001, Date: 199999999999, Age: 1}, 200000000060, 61},
	} {
		if got := age.Current(x.times, x.now); got != x.age {
			t.Errorf("Current(%+v, %d) = %d, want %d", x.times, x.now, got, x.age)
		}
	}
}
