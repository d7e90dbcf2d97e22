package age

import (
	"math"

	"halfwayhouse/api"
	"halfwayhouse/method"
)

// longestGuess is a day, as nobody said how long the response is fresh.
const longestGuess seconds = 24 * 60 * 60

// Guess returns that part of a span, but at most a day.
func Guess(part float64, span int64) int64 {
	if !(part > 0) { // so that NaN counts as nothing, too
		return 0
	}
	whole := math.Floor(float64(clamp(span, longest)) * min(part, 1))
	return int64(clamp(int64(whole), longestGuess))
}

// Life returns for how many seconds a response is fresh that says x. If it says nothing, that is guessed as a part of the time for which it had not been changed.
func Life(x api.Told, part float64) int64 {
	c := x.Control
	switch {
	case c.SMaxAge >= 0: // it is meant for shared caches, such as this one
		return span(seconds(c.SMaxAge))
	case c.MaxAge >= 0:
		return span(seconds(c.MaxAge))
	case x.Expires >= 0:
		return after(x.Expires, x.Date)
	case c.Public || method.Heuristic(x.Status):
		return Guess(part, after(x.Date, x.Last))
	}
	return 0
}
