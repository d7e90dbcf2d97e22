package control_test

import (
	"math"
	"strconv"
	"strings"
	"testing"

	"halfwayhouse/api"
	"halfwayhouse/control"
)

// numbered are the directives with numbers, in the order of P10.1.
var numbered = []struct {
	name  string
	place func(c *api.Control) *int64
}{
	{"max-age", func(c *api.Control) *int64 { return &c.MaxAge }},
	{"s-maxage", func(c *api.Control) *int64 { return &c.SMaxAge }},
	{"max-stale", func(c *api.Control) *int64 { return &c.MaxStale }},
	{"min-fresh", func(c *api.Control) *int64 { return &c.MinFresh }},
	{"stale-while-revalidate", func(c *api.Control) *int64 { return &c.StaleWhile }},
	{"stale-if-error", func(c *api.Control) *int64 { return &c.StaleIfError }},
}

// flagged are the directives without numbers, in the order of P10.1.
var flagged = []struct {
	name  string
	place func(c *api.Control) *bool
}{
	{"no-cache", func(c *api.Control) *bool { return &c.NoCache }},
	{"no-store", func(c *api.Control) *bool { return &c.NoStore }},
	{"no-transform", func(c *api.Control) *bool { return &c.NoTransform }},
	{"only-if-cached", func(c *api.Control) *bool { return &c.OnlyIfCached }},
	{"must-revalidate", func(c *api.Control) *bool { return &c.MustRevalidate }},
	{"proxy-revalidate", func(c *api.Control) *bool { return &c.ProxyRevalidate }},
	{"must-understand", func(c *api.Control) *bool { return &c.MustUnderstand }},
	{"public", func(c *api.Control) *bool { return &c.Public }},
	{"private", func(c *api.Control) *bool { return &c.Private }},
}

// of makes a control of what set changes in the one that contains nothing.
func of(set func(c *api.Control)) api.Control {
	c := api.Control{MaxAge: -1, SMaxAge: -1, MaxStale: -1, MinFresh: -1, StaleWhile: -1, StaleIfError: -1}
	set(&c)
	return c
}

// nothing is the control that contains nothing.
func nothing() api.Control { return of(func(*api.Control) {}) }

// withFlags makes a control of numbers and of those flags whose bits are set.
func withFlags(c api.Control, bits int) api.Control {
	for i, f := range flagged {
		*f.place(&c) = bits>>i&1 == 1
	}
	return c
}

// controls calls f with each control of a few numbers, with a few flags each, and with each control of all flags, with a few numbers each.
func controls(f func(c api.Control)) {
	values := []int64{-1, 0, 1, 59, api.MaxDelta - 1, api.MaxDelta}
	every := 1
	for range numbered {
		every *= len(values)
	}
	for k := range every {
		c, rest := nothing(), k
		for _, n := range numbered {
			*n.place(&c), rest = values[rest%len(values)], rest/len(values)
		}
		f(c)
		f(withFlags(c, k%512))
	}
	for bits := range 512 {
		f(withFlags(nothing(), bits))
		f(withFlags(of(func(c *api.Control) { c.SMaxAge, c.MaxStale = 7, api.MaxDelta }), bits))
	}
}

// P10.1: the control that contains nothing.
func TestNone(t *testing.T) {
	if c := control.None(); c != nothing() {
		t.Errorf("%+v", c)
	}
	if control.Check(control.None()) != api.OK || control.Text(control.None()) != "" {
		t.Error("None is not empty")
	}
}

// P10.2: each number, in and out of its range.
func TestCheck(t *testing.T) {
	for _, n := range numbered {
		for _, x := range []struct {
			seconds int64
			e       api.Errno
		}{
			{-1, api.OK}, {0, api.OK}, {1, api.OK}, {api.MaxDelta - 1, api.OK}, {api.MaxDelta, api.OK},
			{-2, api.ErrArg}, {-3, api.ErrArg}, {math.MinInt32, api.ErrArg}, {-api.MaxDelta, api.ErrArg}, {math.MinInt64, api.ErrArg}, {math.MinInt64 + 1, api.ErrArg},
			{api.MaxDelta + 1, api.ErrArg}, {1 << 32, api.ErrArg}, {1<<32 - 1, api.ErrArg}, {api.MaxNumber, api.ErrArg}, {math.MaxInt64, api.ErrArg},
		} {
			for _, bits := range []int{0, 511} {
				for _, other := range []int64{-1, 0, api.MaxDelta} {
					c := withFlags(nothing(), bits)
					for _, m := range numbered {
						*m.place(&c) = other
					}
					*n.place(&c) = x.seconds
					if e := control.Check(c); e != x.e {
						t.Errorf("Check of %s=%d, flags %b, the others %d = %d", n.name, x.seconds, bits, other, e)
					}
				}
			}
		}
	}
	controls(func(c api.Control) {
		if e := control.Check(c); e != api.OK {
			t.Fatalf("Check(%+v) = %d", c, e)
		}
	})
	if e := control.Check(api.Control{}); e != api.OK {
		t.Errorf("Check of zeros = %d", e)
	}
}

// P10.2: texts.
func TestText(t *testing.T) {
	for _, x := range []struct {
		c api.Control
		s string
	}{
		{nothing(), ""},
		{of(func(c *api.Control) { c.MaxAge = 5 }), "max-age=5"},
		{of(func(c *api.Control) { c.MaxAge, c.NoCache = 3, true }), "max-age=3, no-cache"},
		{of(func(c *api.Control) { c.NoStore, c.NoCache = true, true }), "no-cache, no-store"},
		{of(func(c *api.Control) { c.MaxStale = api.MaxDelta }), "max-stale"},
		{of(func(c *api.Control) { c.MaxStale = api.MaxDelta - 1 }), "max-stale=2147483647"},
		{of(func(c *api.Control) { c.MaxStale = 0 }), "max-stale=0"},
		{of(func(c *api.Control) { c.MaxAge, c.MaxStale = api.MaxDelta, api.MaxDelta }), "max-age=2147483648, max-stale"},
		{api.Control{}, "max-age=0, s-maxage=0, max-stale=0, min-fresh=0, stale-while-revalidate=0, stale-if-error=0"},
		{withFlags(api.Control{MaxAge: 1, SMaxAge: 2, MaxStale: 3, MinFresh: 4, StaleWhile: 5, StaleIfError: 6}, 511),
			"max-age=1, s-maxage=2, max-stale=3, min-fresh=4, stale-while-revalidate=5, stale-if-error=6, no-cache, no-store, no-transform, only-if-cached, must-revalidate, proxy-revalidate, must-understand, public, private"},
		// Not valid: those below 0 are left out all the same, and only MaxDelta itself is any staleness.
		{api.Control{MaxAge: -2, SMaxAge: math.MinInt64, MaxStale: -api.MaxDelta, MinFresh: -3, StaleWhile: -4, StaleIfError: -5, Public: true}, "public"},
		{of(func(c *api.Control) { c.MaxAge, c.MaxStale = math.MaxInt64, api.MaxDelta+1 }), "max-age=9223372036854775807, max-stale=2147483649"},
	} {
		if s := control.Text(x.c); s != x.s {
			t.Errorf("Text(%+v) = %q, want %q", x.c, s, x.s)
		}
	}
}

// slowText follows P10.2, from the lists of names.
func slowText(c api.Control) string {
	s := ""
	for _, n := range numbered {
		if seconds := *n.place(&c); n.name == "max-stale" && seconds == 1<<31 {
			s += ", max-stale"
		} else if seconds >= 0 {
			s += ", " + n.name + "=" + strconv.FormatInt(seconds, 10)
		}
	}
	for _, f := range flagged {
		if *f.place(&c) {
			s += ", " + f.name
		}
	}
	return strings.TrimPrefix(s, ", ")
}

// P10.3: Parse of Text(c) is c.
func TestParseOfText(t *testing.T) {
	controls(func(c api.Control) {
		s := control.Text(c)
		if want := slowText(c); s != want {
			t.Fatalf("Text(%+v) = %q, want %q", c, s, want)
		}
		if got := control.Parse([]string{s}); got != c {
			t.Fatalf("Parse(%q) = %+v, want %+v", s, got, c)
		}
		if got := control.Parse(strings.Split(s, ", ")); got != c {
			t.Fatalf("Parse(%q), each a value, = %+v, want %+v", s, got, c)
		}
	})
}

// P10.2: what the texts of both say, number by number and flag by flag.
func TestJoin(t *testing.T) {
	values := []int64{math.MinInt64, -api.MaxDelta, -2, -1, 0, 1, 5, 6, api.MaxDelta - 1, api.MaxDelta, api.MaxDelta + 1, api.MaxNumber, api.MaxNumber + 1, math.MaxInt64}
	for _, n := range numbered {
		for _, x := range values {
			for _, y := range values {
				a, b, want := nothing(), nothing(), nothing()
				*n.place(&a), *n.place(&b) = x, y
				*n.place(&want) = joined(n.name, x, y)
				if got := control.Join(a, b); got != want {
					t.Errorf("Join of %s %d and %d = %+v", n.name, x, y, got)
				}
			}
		}
	}
	for _, f := range flagged {
		for bits := range 4 {
			a, b, want := nothing(), nothing(), nothing()
			*f.place(&a), *f.place(&b), *f.place(&want) = bits&1 > 0, bits&2 > 0, bits > 0
			if got := control.Join(a, b); got != want {
				t.Errorf("Join of %s, %b = %+v", f.name, bits, got)
			}
		}
	}
}

// joined returns the number of two texts, as the promise says: too great ones count as MaxDelta, those below 0 are not there.
func joined(name string, x, y int64) int64 {
	x, y = max(min(x, 1<<31), -1), max(min(y, 1<<31), -1)
	if name == "max-stale" || x < 0 || y < 0 {
		return max(x, y)
	}
	return min(x, y)
}

func TestJoinOfAll(t *testing.T) {
	last := nothing()
	controls(func(c api.Control) {
		want := nothing()
		for _, n := range numbered {
			*n.place(&want) = joined(n.name, *n.place(&last), *n.place(&c))
		}
		for _, f := range flagged {
			*f.place(&want) = *f.place(&last) || *f.place(&c)
		}
		if got := control.Join(last, c); got != want {
			t.Fatalf("Join(%+v, %+v) = %+v", last, c, got)
		}
		if got := control.Join(c, last); got != want {
			t.Fatalf("Join(%+v, %+v) = %+v", c, last, got)
		}
		if got := control.Join(c, nothing()); got != c {
			t.Fatalf("Join(%+v, nothing) = %+v", c, got)
		}
		last = c
	})
}
