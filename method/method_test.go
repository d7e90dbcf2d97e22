package method_test

import (
	"math"
	"slices"
	"strings"
	"testing"

	"halfwayhouse/method"
)

// class is what the functions say about a method.
type class struct{ known, safe, idempotent, cached bool }

// classOf asks for the class of m.
func classOf(m string) class {
	return class{method.Known(m), method.Safe(m), method.Idempotent(m), method.Cached(m)}
}

// P13.1: the names of the known methods.
func TestNames(t *testing.T) {
	want := []string{"CONNECT", "DELETE", "GET", "HEAD", "OPTIONS", "PATCH", "POST", "PUT", "TRACE"}
	if got := method.Names(); !slices.Equal(got, want) {
		t.Errorf("Names() = %q, want %q", got, want)
	}
}

// P13.1: the classes of the known methods.
func TestKnownMethods(t *testing.T) {
	for _, x := range []struct {
		method string
		class  class
	}{
		{"CONNECT", class{known: true}},
		{"DELETE", class{known: true, idempotent: true}},
		{"GET", class{known: true, safe: true, idempotent: true, cached: true}},
		{"HEAD", class{known: true, safe: true, idempotent: true, cached: true}},
		{"OPTIONS", class{known: true, safe: true, idempotent: true}},
		{"PATCH", class{known: true}},
		{"POST", class{known: true}},
		{"PUT", class{known: true, idempotent: true}},
		{"TRACE", class{known: true, safe: true, idempotent: true}},
	} {
		if got := classOf(x.method); got != x.class {
			t.Errorf("%s: %+v, want %+v", x.method, got, x.class)
		}
	}
}

// P13.1: what is no known method is in no class, however near to one it is.
func TestOtherMethods(t *testing.T) {
	others := []string{"", " ", "\x00", "*", "X", "LINK", "UNLINK", "SEARCH", "PROPFIND", "PRI", "QUERY", "BREW", "GET,HEAD", "GET HEAD", "CONNECTDELETE", "ＧＥＴ", "HÉAD", "\xff"}
	for _, m := range method.Names() {
		others = append(others, strings.ToLower(m), m[:1]+strings.ToLower(m[1:]), strings.ToLower(m[:1])+m[1:])
		others = append(others, " "+m, m+" ", m+"\t", "\t"+m, m+"\x00", m+"\r", m+"\n", `"`+m+`"`, m+m, m[1:], m[:len(m)-1], m[:1])
	}
	for _, m := range others {
		if got := classOf(m); got != (class{}) {
			t.Errorf("%q: %+v", m, got)
		}
	}
}

// statuses are the functions on a status, with the statuses of which the document says that they report them.
var statuses = []struct {
	name string
	f    func(int) bool
	in   []int
}{
	{"Heuristic", method.Heuristic, []int{200, 203, 204, 206, 300, 301, 308, 404, 405, 410, 414, 501}},
	{"Understood", method.Understood, []int{200, 203, 204, 300, 301, 302, 307, 308, 404, 405, 410, 414, 501}},
	{"Broken", method.Broken, []int{500, 502, 503, 504}},
}

// P13.2: every status, and many numbers that are none.
func TestStatuses(t *testing.T) {
	for status := -70000; status <= 70000; status++ {
		for _, x := range statuses {
			if got, want := x.f(status), slices.Contains(x.in, status); got != want {
				t.Errorf("%s(%d) = %v, want %v", x.name, status, got, want)
			}
		}
	}
}

// P13.2: Final, in particular at the ends of its range.
func TestFinal(t *testing.T) {
	for status := -70000; status <= 70000; status++ {
		hundreds := status / 100
		want := status > 0 && (hundreds == 2 || hundreds == 3 || hundreds == 4 || hundreds == 5)
		if got := method.Final(status); got != want {
			t.Errorf("Final(%d) = %v, want %v", status, got, want)
		}
	}
	for status, want := range map[int]bool{199: false, 200: true, 599: true, 600: false, 100: false, 101: false, 299: true, 300: true, 0: false, -200: false} {
		if got := method.Final(status); got != want {
			t.Errorf("Final(%d) = %v, want %v", status, got, want)
		}
	}
}

// P13.2: numbers that are a status if they are cut to fewer bits.
func TestHugeStatuses(t *testing.T) {
	for _, status := range []int{math.MinInt, math.MinInt + 200, math.MaxInt, math.MaxInt - 599, math.MaxInt32, math.MinInt32, 1<<32 + 200, 1<<32 + 500, 1<<16 + 200, 1<<16 + 501, 1<<62 + 404, -(1 << 32) + 200} {
		for _, x := range statuses {
			if x.f(status) {
				t.Errorf("%s(%d)", x.name, status)
			}
		}
		if method.Final(status) {
			t.Errorf("Final(%d)", status)
		}
	}
}

// The examples of the document.
func TestExamples(t *testing.T) {
	if method.Idempotent("POST") || !method.Idempotent("DELETE") {
		t.Error("Idempotent of POST, of DELETE:", method.Idempotent("POST"), method.Idempotent("DELETE"))
	}
}
