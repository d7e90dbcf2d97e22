package decide_test

import (
	"math"
	"slices"
	"strings"
	"testing"

	"halfwayhouse/api"
	"halfwayhouse/control"
	"halfwayhouse/decide"
	"halfwayhouse/method"
)

// The greatest number of seconds, and the last time.
const (
	most = api.MaxDelta
	last = api.MaxTime
)

// parsed is the control of one value of Cache-Control.
func parsed(value string) api.Control { return control.Parse([]string{value}) }

// offer is a response to a GET with that status, and the control of a request and of a response.
func offer(status int, asked, told string) api.Offer {
	return api.Offer{Method: "GET", Status: status, Asked: parsed(asked), Control: parsed(told)}
}

// P15.1: one condition after the other, in a response that is stored but for it.
func TestStorable(t *testing.T) {
	for _, x := range []struct {
		asked, told string
		status      int
		stored      bool
	}{
		{"", "max-age=60", 200, true}, {"", "max-age=0", 200, true}, {"", "s-maxage=0", 200, true}, {"", "s-maxage=60", 200, true}, {"", "stale-if-error=0", 200, true}, {"", "stale-if-error=5", 200, true}, {"", "public", 200, true},
		// Nothing determines how long it may be used.
		{"", "", 200, false}, {"", "stale-while-revalidate=5", 200, false}, {"", "max-stale=5", 200, false}, {"", "min-fresh=5", 200, false}, {"", "no-cache", 200, false}, {"", "must-revalidate", 200, false}, {"", "proxy-revalidate", 200, false}, {"", "no-transform, must-understand, only-if-cached", 200, false},
		{"max-age=60", "", 200, false}, {"s-maxage=60", "", 200, false}, {"public", "", 200, false}, {"stale-if-error=60", "", 200, false}, {"max-stale", "", 200, false},
		// Something forbids it.
		{"no-store", "max-age=60", 200, false}, {"", "max-age=60, no-store", 200, false}, {"no-store", "max-age=60, no-store", 200, false}, {"", "max-age=60, private", 200, false}, {"", "public, private", 200, false}, {"", `max-age=60, private="X"`, 200, false}, {"", "public, s-maxage=60, no-store", 200, false}, {"no-store", "public, s-maxage=60, must-revalidate", 200, false}, {"", "max-age=60, must-understand, no-store", 200, false},
		// What is said does not forbid it.
		{"private", "max-age=60", 200, true}, {"no-cache, only-if-cached, max-age=0, min-fresh=9", "max-age=60", 200, true}, {"must-understand", "max-age=60", 599, true}, {"", "max-age=60, no-cache", 200, true}, {"", "max-age=0, no-cache, must-revalidate, proxy-revalidate, no-transform, only-if-cached", 200, true},
		// The status.
		{"", "max-age=60", 206, false}, {"", "max-age=60", 304, false}, {"", "public, s-maxage=1", 206, false}, {"", "public, s-maxage=1", 304, false}, {"", "max-age=60", 199, false}, {"", "max-age=60", 600, false}, {"", "max-age=60", 100, false}, {"", "max-age=60", 0, false}, {"", "max-age=60", -200, false}, {"", "max-age=60", math.MaxInt, false}, {"", "max-age=60", math.MinInt, false},
		{"", "max-age=60", 201, true}, {"", "max-age=60", 205, true}, {"", "max-age=60", 207, true}, {"", "max-age=60", 303, true}, {"", "max-age=60", 305, true}, {"", "max-age=60", 404, true}, {"", "max-age=60", 500, true}, {"", "max-age=60", 599, true},
		{"", "max-age=60, must-understand", 200, true}, {"", "max-age=60, must-understand", 302, true}, {"", "max-age=60, must-understand", 501, true}, {"", "max-age=60, must-understand", 201, false}, {"", "max-age=60, must-understand", 500, false}, {"", "max-age=60, must-understand", 206, false}, {"", "max-age=60, must-understand", 304, false}, {"", "public, s-maxage=60, must-understand", 599, false},
	} {
		if got := decide.Storable(offer(x.status, x.asked, x.told)); got != x.stored {
			t.Errorf("asked %q, %d, %q: %v", x.asked, x.status, x.told, got)
		}
	}
}

// P15.1: only responses to a GET are stored.
func TestStorableOfMethods(t *testing.T) {
	o := offer(200, "", "public, s-maxage=60, must-revalidate")
	o.Expires, o.Last = true, true
	if !decide.Storable(o) {
		t.Error("GET")
	}
	others := []string{"", "get", "Get", "GET ", " GET", "GE", "GETS", "G", "GET\x00", "X", "*", strings.Repeat("GET", 2)}
	for _, m := range append(others, method.Names()...) {
		o.Method = m
		if decide.Storable(o) && m != "GET" {
			t.Errorf("%q", m)
		}
	}
}

// P15.1: with Auth, something has to allow that it is shared.
func TestStorableWithAuth(t *testing.T) {
	for told, want := range map[string]bool{
		"max-age=60": false, "stale-if-error=60": false, "max-age=60, no-cache": false, "max-age=60, proxy-revalidate": false, "max-age=60, must-understand, no-transform": false,
		"max-age=60, must-revalidate": true, "max-age=60, public": true, "public": true, "s-maxage=0": true, "s-maxage=60": true, "max-age=60, s-maxage=60": true, "s-maxage": true,
		"must-revalidate": false, "public, private": false, "s-maxage=60, no-store": false,
	} {
		o := offer(200, "public, must-revalidate, s-maxage=9", told)
		o.Auth = true
		if got := decide.Storable(o); got != want {
			t.Errorf("with Auth: %q: %v", told, got)
		}
	}
}

// P15.1: whether a field says how long it may be used.
func TestStorableByFields(t *testing.T) {
	for _, told := range []string{"", "no-cache", "must-revalidate", "stale-while-revalidate=9"} {
		for status := -5; status <= 1000; status++ {
			o := offer(status, "", told)
			final := status >= 200 && status <= 599 && status != 206 && status != 304
			o.Expires = true
			if got := decide.Storable(o); got != final {
				t.Errorf("%q, Expires, %d: %v", told, status, got)
			}
			o.Expires, o.Last = false, true
			guessed := slices.Contains([]int{200, 203, 204, 300, 301, 308, 404, 405, 410, 414, 501}, status)
			if got := decide.Storable(o); got != guessed {
				t.Errorf("%q, Last, %d: %v", told, status, got)
			}
			o.Expires = true
			if got := decide.Storable(o); got != final {
				t.Errorf("%q, both, %d: %v", told, status, got)
			}
			o.Expires, o.Last = false, false
			if decide.Storable(o) {
				t.Errorf("%q, %d", told, status)
			}
		}
	}
}

// P15.1: a Vary with a star forbids it, whatever else is said.
func TestStorableWithAnyVary(t *testing.T) {
	o := offer(200, "", "public, s-maxage=60, max-age=60, must-revalidate, stale-if-error=60")
	o.Expires, o.Last, o.AnyVary = true, true, true
	if decide.Storable(o) {
		t.Error("stored")
	}
}

// P15.1: every number below 0 is none, every other one counts; nothing else in an empty offer does.
func TestStorableOfNumbers(t *testing.T) {
	for _, n := range []int64{math.MinInt64, math.MinInt64 + 1, -most, -2, -1, 0, 1, most, most + 1, 1 << 32, math.MaxInt64} {
		for place, set := range map[string]func(c *api.Control){
			"MaxAge":       func(c *api.Control) { c.MaxAge = n },
			"SMaxAge":      func(c *api.Control) { c.SMaxAge = n },
			"StaleIfError": func(c *api.Control) { c.StaleIfError = n },
		} {
			o := offer(200, "", "")
			set(&o.Control)
			if got := decide.Storable(o); got != (n >= 0) {
				t.Errorf("%s %d: %v", place, n, got)
			}
			o.Auth = true
			if got := decide.Storable(o); got != (n >= 0 && place == "SMaxAge") {
				t.Errorf("%s %d, Auth: %v", place, n, got)
			}
		}
	}
	if decide.Storable(api.Offer{}) || decide.Storable(api.Offer{Method: "GET", Status: 304}) || !decide.Storable(api.Offer{Method: "GET", Status: 200}) {
		t.Error("a control of zeros has the numbers 0")
	}
}

// slowStorable follows P15.1: what forbids it, then what determines how long it may be used.
func slowStorable(o api.Offer) bool {
	if o.Method != "GET" || !method.Final(o.Status) || o.Status == 206 || o.Status == 304 {
		return false
	}
	if o.Asked.NoStore || o.Control.NoStore || o.Control.Private || o.AnyVary {
		return false
	}
	if o.Control.MustUnderstand && !method.Understood(o.Status) {
		return false
	}
	if o.Auth {
		if shared := o.Control.MustRevalidate || o.Control.Public || o.Control.SMaxAge >= 0; !shared {
			return false
		}
	}
	ways := 0
	for _, way := range []bool{o.Control.SMaxAge >= 0, o.Control.MaxAge >= 0, o.Expires, o.Control.Public, method.Heuristic(o.Status) && o.Last, o.Control.StaleIfError >= 0} {
		if way {
			ways++
		}
	}
	return ways > 0
}

// P15.1: all offers of a few statuses and methods, with each flag and each number that is named, given or not.
func TestStorableOfAllOffers(t *testing.T) {
	numbers := []int64{-1, 0}
	for _, m := range []string{"GET", "HEAD", "POST"} {
		for _, status := range []int{100, 200, 201, 206, 301, 302, 304, 404, 500, 501, 599, 600} {
			for bits := range 1 << 13 {
				bit := func(n int) bool { return bits>>n&1 == 1 }
				number := func(n int) int64 { return numbers[bits>>n&1] }
				o := api.Offer{Method: m, Status: status, Asked: control.None(), Control: control.None(), Auth: bit(0), Expires: bit(1), Last: bit(2), AnyVary: bit(3)}
				o.Asked.NoStore = bit(4)
				c := &o.Control
				c.NoStore, c.Private, c.MustUnderstand, c.MustRevalidate, c.Public = bit(5), bit(6), bit(7), bit(8), bit(9)
				c.SMaxAge, c.MaxAge, c.StaleIfError = number(10), number(11), number(12)
				if got, want := decide.Storable(o), slowStorable(o); got != want {
					t.Fatalf("Storable(%+v) = %v", o, got)
				}
			}
		}
	}
}
