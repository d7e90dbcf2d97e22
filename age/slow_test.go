package age_test

import (
	"math"
	"math/big"
	"math/rand"
	"strings"
	"testing"

	"halfwayhouse/age"
	"halfwayhouse/api"
	"halfwayhouse/control"
	"halfwayhouse/date"
	"halfwayhouse/method"
)

// edges are numbers at the ends of the ranges, and around them.
var edges = []int64{
	math.MinInt64, math.MinInt64 + 1, -(1 << 32), -most - 1, -most, -most + 1, -2, -1, 0, 1, 2, 60, day - 1, day, day + 1, sec, now,
	most - 2, most - 1, most, most + 1, most + 2, 2 * most, last - most, last - 1, last, last + 1, last + most, 1 << 62, math.MaxInt64 - 1, math.MaxInt64,
}

// clamped is n in the range from 0 to top, as a number that nothing can overflow.
func clamped(n *big.Int, top int64) *big.Int {
	switch t := big.NewInt(top); {
	case n.Sign() < 0:
		return new(big.Int)
	case n.Cmp(t) > 0:
		return t
	}
	return n
}

// slowSum is a plus or less b, both in the range to top, as P14.1 says.
func slowSum(a, b, top int64, plus bool) int64 {
	x, y := clamped(big.NewInt(a), top), clamped(big.NewInt(b), top)
	if !plus {
		y = new(big.Int).Neg(y)
	}
	return clamped(new(big.Int).Add(x, y), most).Int64()
}

func slowAdd(a, b int64) int64               { return slowSum(a, b, most, true) }
func slowDifference(later, than int64) int64 { return slowSum(later, than, last, false) }

// slowApparent, slowCorrected and slowCurrent follow P14.1.
func slowApparent(t api.Times) int64 {
	if t.Date < 0 {
		return 0
	}
	return slowDifference(t.Answered, t.Date)
}

func slowCorrected(t api.Times) int64 {
	other := slowAdd(t.Age, slowDifference(t.Answered, t.Asked))
	if apparent := slowApparent(t); apparent > other {
		return apparent
	}
	return other
}

func slowCurrent(t api.Times, now int64) int64 {
	return slowAdd(slowCorrected(t), slowDifference(now, t.Answered))
}

// P14.1: sums of all pairs of edges.
func TestSumsOfEdges(t *testing.T) {
	for _, a := range edges {
		for _, b := range edges {
			if got, want := age.Add(a, b), slowAdd(a, b); got != want {
				t.Errorf("Add(%d, %d) = %d, want %d", a, b, got, want)
			}
			if got, want := age.Sub(a, b), slowSum(a, b, most, false); got != want {
				t.Errorf("Sub(%d, %d) = %d, want %d", a, b, got, want)
			}
		}
	}
}

// compareAges compares the ages of a response with those times, now and later, and asks whether they decrease (P14.3).
func compareAges(t *testing.T, times api.Times, nows []int64) {
	t.Helper()
	if got, want := age.Apparent(times), slowApparent(times); got != want {
		t.Fatalf("Apparent(%+v) = %d, want %d", times, got, want)
	}
	before := slowCorrected(times)
	if got := age.Corrected(times); got != before {
		t.Fatalf("Corrected(%+v) = %d, want %d", times, got, before)
	}
	for _, now := range nows {
		got := age.Current(times, now)
		if want := slowCurrent(times, now); got != want || got < before || got > most {
			t.Fatalf("Current(%+v, %d) = %d, want %d; before %d", times, now, got, want, before)
		}
		before = got
	}
}

// P14.1 and P14.3: all combinations of a few edges.
func TestAgesOfEdges(t *testing.T) {
	few := []int64{math.MinInt64, -1, 0, 1, 60, most - 1, most, most + 1, last - 1, last, last + 1, math.MaxInt64}
	for _, asked := range few {
		for _, answered := range few {
			for _, made := range few {
				for _, n := range few {
					compareAges(t, api.Times{Asked: asked, Answered: answered, Date: made, Age: n}, few)
				}
			}
		}
	}
}

// P14.1 and P14.3: all times of a few seconds, each with a series of nows.
func TestAgesOfSmallTimes(t *testing.T) {
	const top = 5
	var nows []int64
	for n := int64(-2); n <= top+2; n++ {
		nows = append(nows, n)
	}
	for _, base := range []int64{0, most - 3, last - 3} {
		for i := range 7 * 7 * 7 * 7 {
			digit := func(place int) int64 { return base + int64(i/place%7) - 1 }
			moved := make([]int64, len(nows))
			for k, n := range nows {
				moved[k] = base + n
			}
			compareAges(t, api.Times{Asked: digit(1), Answered: digit(7), Date: digit(49), Age: digit(343) - base}, moved)
			compareAges(t, api.Times{Asked: digit(1), Answered: digit(7), Date: digit(49), Age: digit(343)}, moved)
		}
	}
}

// P14.1 and P14.3: many numbers of every size.
func TestAgesOfManyTimes(t *testing.T) {
	r := rand.New(rand.NewSource(14))
	number := func() int64 { return int64(r.Uint64()) >> r.Intn(64) }
	for range 50000 {
		times := api.Times{Asked: number(), Answered: number(), Date: number(), Age: number()}
		from, to := number(), number()
		if from > to {
			from, to = to, from
		}
		compareAges(t, times, []int64{from, to})
	}
}

// slowGuess follows P14.2: the product is a real number that is rounded to a float64 once.
func slowGuess(part float64, span int64) int64 {
	if span <= 0 || part != part || part <= 0 {
		return 0
	}
	if span > most {
		span = most
	}
	if part > 1 {
		part = 1
	}
	exact := new(big.Float).SetPrec(200).Mul(new(big.Float).SetInt64(span), new(big.Float).SetFloat64(part))
	rounded, _ := exact.Float64()
	whole, _ := big.NewFloat(rounded).Int64()
	if whole > day {
		return day
	}
	return whole
}

// parts are parts at the edges and between them.
func parts() []float64 {
	l := []float64{
		math.NaN(), math.Inf(-1), -math.MaxFloat64, -1, -0.1, -math.SmallestNonzeroFloat64, math.Copysign(0, -1), 0, math.SmallestNonzeroFloat64, 0x1p-1022, 1e-100, 1e-9,
		math.Nextafter(1, 0), 1, math.Nextafter(1, 2), 1.5, 2, 1e9, 1e300, math.MaxFloat64, math.Inf(1),
	}
	for n := 1; n < 100; n++ {
		l = append(l, float64(n)/100, 1/float64(n), 1/(float64(n)*1000), math.Nextafter(float64(n)/100, 0), math.Nextafter(float64(n)/100, 1))
	}
	return l
}

// P14.2: guesses of many parts of many spans.
func TestGuesses(t *testing.T) {
	spans := append([]int64{}, edges...)
	for n := range int64(200) {
		spans = append(spans, n, n*1000, n*day, n*day+1, n*day-1, n*10000019)
	}
	for _, part := range parts() {
		for _, span := range spans {
			if got, want := age.Guess(part, span), slowGuess(part, span); got != want {
				t.Fatalf("Guess(%v, %d) = %d, want %d", part, span, got, want)
			}
		}
	}
}

// slowLife follows P14.2.
func slowLife(x api.Told, part float64) int64 {
	if n := x.Control.SMaxAge; n >= 0 {
		return slowAdd(n, 0)
	}
	if n := x.Control.MaxAge; n >= 0 {
		return slowAdd(n, 0)
	}
	if x.Expires >= 0 {
		if x.Date < 0 {
			return 0
		}
		return slowDifference(x.Expires, x.Date)
	}
	if x.Last < 0 || x.Date < 0 {
		return 0
	}
	if !method.Heuristic(x.Status) && !x.Control.Public {
		return 0
	}
	return slowGuess(part, slowDifference(x.Date, x.Last))
}

// P14.2: all combinations of a few values.
func TestLives(t *testing.T) {
	ages := []int64{math.MinInt64, -1, 0, 5, most, most + 1, math.MaxInt64}
	times := []int64{math.MinInt64, -1, 0, 1000, most + 1000, last, last + 1, math.MaxInt64}
	for i := range len(ages) * len(ages) * len(times) * len(times) * len(times) {
		n := i
		pick := func(l []int64) int64 {
			x := l[n%len(l)]
			n /= len(l)
			return x
		}
		c := control.None()
		c.SMaxAge, c.MaxAge = pick(ages), pick(ages)
		x := api.Told{Control: c, Date: pick(times), Expires: pick(times), Last: pick(times)}
		for _, status := range []int{0, 200, 302} {
			for _, public := range []bool{false, true} {
				x.Status, x.Control.Public = status, public
				for _, part := range []float64{0.1, 1e-6} {
					if got, want := age.Life(x, part), slowLife(x, part); got != want {
						t.Fatalf("Life(%+v, %v) = %d, want %d", x, part, got, want)
					}
				}
			}
		}
	}
}

// slowOnly is the only value of the fields with that name, and how many there are.
func slowOnly(l []api.Field, name string) (value string, n int) {
	for _, f := range l {
		if strings.EqualFold(f.Name, name) { // the names of these tests are ASCII
			value = f.Value
			n++
		}
	}
	return value, n
}

// slowTime is the time of the fields with that name: missing if there is none, wrong if they are not exactly one time.
func slowTime(l []api.Field, name string, missing, wrong int64) int64 {
	value, n := slowOnly(l, name)
	if n == 0 {
		return missing
	}
	if t, e := date.Parse(value, now); n == 1 && e == api.OK {
		return t
	}
	return wrong
}

// slowAge follows the term Age.
func slowAge(l []api.Field) int64 {
	value, n := slowOnly(l, "Age")
	number, ok := new(big.Int).SetString(value, 10)
	if n != 1 || !ok || strings.ContainsAny(value, "+-_") {
		return 0
	}
	return clamped(number, most).Int64()
}

// slowControl is the control of the fields.
func slowControl(l []api.Field) api.Control {
	var values []string
	for _, f := range l {
		if strings.EqualFold(f.Name, "Cache-Control") {
			values = append(values, f.Value)
		}
	}
	return control.Parse(values)
}

// P14.1 and P14.2: every list of up to three of a few fields.
func TestAllShortLists(t *testing.T) {
	var few []api.Field
	for _, name := range []string{"Date", "eXPIRES", "last-modified", "AGE", "Cache-Control", "X"} {
		for _, value := range []string{first, second, "0", "9007199254740992", "", "max-age=5", `public, max-age="3"`} {
			few = append(few, api.Field{Name: name, Value: value})
		}
	}
	lists := [][]api.Field{nil}
	for level := lists; len(level[0]) < 3; {
		var longer [][]api.Field
		for _, l := range level {
			for _, f := range few {
				longer = append(longer, append(l[:len(l):len(l)], f))
			}
		}
		level = longer
		lists = append(lists, longer...)
	}
	for _, l := range lists {
		m := api.Msg{Status: 404, Fields: l}
		told := api.Told{Control: slowControl(l), Date: slowTime(l, "Date", -1, -1), Expires: slowTime(l, "Expires", -1, 0), Last: slowTime(l, "Last-Modified", -1, -1), Status: 404}
		if got := age.Of(m, now); got != told {
			t.Fatalf("Of(%q) = %+v, want %+v", l, got, told)
		}
		times := api.Times{Asked: 3, Answered: now, Date: told.Date, Age: slowAge(l)}
		if got := age.TimesOf(m, 3, now); got != times {
			t.Fatalf("TimesOf(%q) = %+v, want %+v", l, got, times)
		}
	}
}
