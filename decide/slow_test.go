package decide_test

import (
	"math"
	"math/rand"
	"testing"

	"halfwayhouse/age"
	"halfwayhouse/api"
	"halfwayhouse/control"
	"halfwayhouse/decide"
)

// slowFresh, slowStale and slowStrict follow the terms.
func slowFresh(m api.Meta, now int64) bool {
	return age.Current(m.Times, now) < m.Life
}

func slowStale(m api.Meta, now int64) int64 {
	if slowFresh(m, now) {
		return 0
	}
	return age.Sub(age.Current(m.Times, now), m.Life)
}

func slowStrict(c api.Control) bool {
	for _, reason := range []bool{c.MustRevalidate, c.ProxyRevalidate, c.NoCache, c.SMaxAge >= 0} {
		if reason {
			return true
		}
	}
	return false
}

// slowUse follows P15.3, sentence by sentence.
func slowUse(m api.Meta, asked api.Control, now int64) int {
	there := func(limit int64) bool { return limit >= 0 }
	check := api.UseCheck
	if asked.OnlyIfCached {
		check = api.UseNone
	}
	if asked.NoCache || m.Control.NoCache {
		return check
	}
	current, staleness := age.Current(m.Times, now), slowStale(m, now)
	tooOld := there(asked.MaxAge) && current > asked.MaxAge
	if slowFresh(m, now) {
		if tooOld || there(asked.MinFresh) && age.Sub(m.Life, current) < asked.MinFresh {
			return check
		}
		return api.UseFresh
	}
	if slowStrict(m.Control) {
		return check
	}
	if !tooOld && there(asked.MaxStale) && (asked.MaxStale >= most || staleness <= asked.MaxStale) {
		return api.UseStale
	}
	if !there(asked.MaxAge) && !there(asked.MinFresh) && there(m.Control.StaleWhile) && staleness <= m.Control.StaleWhile {
		return api.UseWhile
	}
	return check
}

// slowOnError follows P15.3.
func slowOnError(m api.Meta, asked api.Control, now int64) bool {
	if slowFresh(m, now) {
		return true
	}
	if slowStrict(m.Control) {
		return false
	}
	for _, limit := range []int64{m.Control.StaleIfError, asked.StaleIfError} {
		if limit >= 0 && slowStale(m, now) <= limit {
			return true
		}
	}
	return false
}

// compare asks everything about m, and holds it against the slow forms and the theorems (P15.4).
func compare(t *testing.T, m api.Meta, asked api.Control, now int64) {
	t.Helper()
	fresh, strict := slowFresh(m, now), slowStrict(m.Control)
	if got := decide.Fresh(m, now); got != fresh {
		t.Fatalf("Fresh(%+v, %d) = %v", m, now, got)
	}
	if got, want := decide.Stale(m, now), slowStale(m, now); got != want {
		t.Fatalf("Stale(%+v, %d) = %d, want %d", m, now, got, want)
	}
	if got := decide.Strict(m.Control); got != strict {
		t.Fatalf("Strict(%+v) = %v", m.Control, got)
	}
	use, used := decide.Use(m, asked, now), decide.OnError(m, asked, now)
	if want := slowUse(m, asked, now); use != want {
		t.Fatalf("Use(%+v, %+v, %d) = %d, want %d", m, asked, now, use, want)
	}
	if want := slowOnError(m, asked, now); used != want {
		t.Fatalf("OnError(%+v, %+v, %d) = %v", m, asked, now, used)
	}
	if fresh && (use == api.UseStale || use == api.UseWhile) || !fresh && use == api.UseFresh {
		t.Fatalf("fresh %v: Use(%+v, %+v, %d) = %d", fresh, m, asked, now, use)
	}
	if strict && used != fresh || strict && (use == api.UseStale || use == api.UseWhile) {
		t.Fatalf("strict, fresh %v: %+v, %+v, %d: Use %d, OnError %v", fresh, m, asked, now, use, used)
	}
}

// P15.2 to P15.4: all combinations of a few numbers, with each flag that is named.
func TestAllUses(t *testing.T) {
	few := []int64{-1, 0, 1, 2, 3}
	for i := range 5 * 5 * 5 * 5 * 4 * 4 {
		n := i
		pick := func(from []int64) int64 {
			x := from[n%len(from)]
			n /= len(from)
			return x
		}
		asked, told := control.None(), control.None()
		asked.MaxAge, asked.MinFresh, asked.MaxStale, told.StaleWhile = pick(few), pick(few), pick(few), pick(few)
		m := api.Meta{Control: told, Times: aged(pick(few[1:])), Life: pick([]int64{-1, 0, 1, 2})}
		for bits := range 1 << 6 {
			bit := func(n int) bool { return bits>>n&1 == 1 }
			asked.OnlyIfCached, asked.NoCache = bit(0), bit(1)
			m.Control.NoCache, m.Control.MustRevalidate, m.Control.ProxyRevalidate = bit(2), bit(3), bit(4)
			m.Control.SMaxAge = -1
			if bit(5) {
				m.Control.SMaxAge = 0
			}
			compare(t, m, asked, 0)
		}
	}
}

// P15.3 and P15.4: all combinations of a few numbers after a failure.
func TestAllFailures(t *testing.T) {
	few := []int64{math.MinInt64, -2, -1, 0, 1, 2, most - 1, most, most + 1, math.MaxInt64}
	for _, life := range few {
		for _, current := range few {
			for _, a := range few {
				for _, b := range few {
					m, asked := api.Meta{Control: control.None(), Times: aged(current), Life: life}, control.None()
					m.Control.StaleIfError, asked.StaleIfError = a, b
					compare(t, m, asked, 0)
					m.Control.ProxyRevalidate = true
					compare(t, m, asked, 0)
				}
			}
		}
	}
}

// A maker draws controls and stored responses.
type maker struct{ *rand.Rand }

// number is one at or near an edge, one of a few seconds, or one of any size.
func (r maker) number() int64 {
	switch r.Intn(6) {
	case 0:
		return int64(r.Uint64()) >> r.Intn(64)
	case 1:
		edges := []int64{math.MinInt64, -most, 0, most, most - 1, most + 1, last, last + 1, math.MaxInt64}
		return edges[r.Intn(len(edges))]
	case 2, 3:
		return -1
	}
	return int64(r.Intn(8))
}

func (r maker) flag() bool { return r.Intn(6) == 0 }

// control fills every part, also those that do not matter.
func (r maker) control() api.Control {
	return api.Control{
		MaxAge: r.number(), SMaxAge: min(r.number(), r.number()), MaxStale: r.number(), MinFresh: r.number(), StaleWhile: r.number(), StaleIfError: r.number(),
		NoCache: r.flag(), NoStore: r.flag(), NoTransform: r.flag(), OnlyIfCached: r.flag(), MustRevalidate: r.flag(), ProxyRevalidate: r.flag(), MustUnderstand: r.flag(), Public: r.flag(), Private: r.flag(),
	}
}

// P15.2 to P15.4: many stored responses and requests, with numbers of every size.
func TestManyUses(t *testing.T) {
	r := maker{rand.New(rand.NewSource(15))}
	uses := map[int]int{}
	for range 400000 {
		m := api.Meta{Control: r.control(), Times: api.Times{Asked: r.number(), Answered: r.number(), Date: r.number(), Age: r.number()}, Life: r.number(), Checked: r.flag()}
		asked, now := r.control(), r.number()
		compare(t, m, asked, now)
		uses[decide.Use(m, asked, now)]++
	}
	for use := api.UseFresh; use <= api.UseNone; use++ {
		if uses[use] < 1000 {
			t.Errorf("too few of use %d: %v", use, uses)
		}
	}
}

// P15.1: many offers with every part filled, also those that do not matter.
func TestManyOffers(t *testing.T) {
	r := maker{rand.New(rand.NewSource(15))}
	statuses := []int{199, 200, 204, 206, 302, 304, 404, 500, 599, 600}
	stored := 0
	for range 400000 {
		o := api.Offer{Method: "GET", Asked: r.control(), Auth: r.flag(), Status: statuses[r.Intn(len(statuses))], Control: r.control(), Expires: r.flag(), Last: r.flag(), AnyVary: r.flag()}
		if r.flag() {
			o.Method = "HEAD"
		}
		got := decide.Storable(o)
		if got != slowStorable(o) {
			t.Fatalf("Storable(%+v) = %v", o, got)
		}
		if got {
			stored++
		}
	}
	if stored < 1000 {
		t.Errorf("too few are stored: %d", stored)
	}
}

// slowOf follows P15.2.
func slowOf(m api.Msg, t api.Times, part float64) api.Meta {
	tags, changes := 0, 0
	var values []string
	for _, f := range m.Fields {
		switch f.Name { // the names of the test
		case "ETag", "eTAG":
			tags++
		case "Last-Modified", "last-modified":
			changes++
		case "Cache-Control":
			values = append(values, f.Value)
		}
	}
	return api.Meta{Control: control.Parse(values), Times: t, Life: age.Life(age.Of(m, t.Answered), part), Checked: tags == 1 || changes == 1}
}

// P15.2: every list of up to four of a few fields.
func TestAllShortLists(t *testing.T) {
	few := of("ETag", `"x"`, "eTAG", "", "Last-Modified", prior, "last-modified", "x", "Cache-Control", "max-age=60, no-cache", "Cache-Control", "public, s-maxage=5", "Date", first, "Expires", first, "X", "ETag").Fields
	lists := [][]api.Field{nil}
	for level := lists; len(level[0]) < 4; {
		var longer [][]api.Field
		for _, l := range level {
			for _, f := range few {
				longer = append(longer, append(l[:len(l):len(l)], f))
			}
		}
		level = longer
		lists = append(lists, longer...)
	}
	for _, l := range lists {
		m := api.Msg{Status: 200, Fields: l}
		times := age.TimesOf(m, sec, sec+5)
		for _, part := range []float64{0, 0.1} {
			if got, want := decide.Of(m, times, part), slowOf(m, times, part); got != want {
				t.Fatalf("Of(%q) = %+v, want %+v", l, got, want)
			}
		}
	}
}

// From an answer to its uses, as the time passes.
func TestWhole(t *testing.T) {
	m := of("Date", first, "Cache-Control", "max-age=60, stale-while-revalidate=30, stale-if-error=90", "ETag", `"x"`)
	times := age.TimesOf(m, sec+1, sec+2)
	o := api.Offer{Method: "GET", Asked: control.None(), Status: m.Status, Control: parsed("max-age=60")}
	if !decide.Storable(o) {
		t.Error("not stored")
	}
	meta := decide.Of(m, times, 0.1)
	for now, want := range map[int64]struct {
		use     int
		onError bool
	}{sec + 2: {fresh, true}, sec + 59: {fresh, true}, sec + 60: {while, true}, sec + 90: {while, true}, sec + 91: {check, true}, sec + 150: {check, true}, sec + 151: {check, false}} {
		if use, onError := decide.Use(meta, parsed(""), now), decide.OnError(meta, parsed(""), now); use != want.use || onError != want.onError {
			t.Errorf("at %d: %d, %v, want %+v", now-sec, use, onError, want)
		}
	}
}
