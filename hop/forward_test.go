package hop_test

import (
	"math"
	"slices"
	"testing"

	"halfwayhouse/api"
	"halfwayhouse/field"
	"halfwayhouse/hop"
	"halfwayhouse/message"
	"halfwayhouse/token"
)

// equal reports whether a and b are equal in all parts, the case of names included.
func equal(a, b api.Msg) bool {
	return message.Same(a, b) && slices.Equal(a.Fields, b.Fields) && slices.Equal(a.Trailers, b.Trailers)
}

// get returns a request.
func get(minor int, l ...api.Field) api.Msg {
	return api.Msg{Method: "GET", Target: "/", Minor: minor, Fields: l}
}

// answer returns a response.
func answer(minor int, l ...api.Field) api.Msg {
	return api.Msg{Status: 200, Reason: "OK", Minor: minor, Fields: l}
}

// P7.2: what is passed on of a request.
func TestForwardOfRequests(t *testing.T) {
	for _, x := range []struct {
		minor   int
		l, want []api.Field
	}{
		{1, of("Host", "a"), of("Host", "a", "Via", "1.1 p")},
		{0, of("Host", "a"), of("Host", "a", "Via", "1.0 p")},
		{0, nil, of("Host", "", "Via", "1.0 p")}, // an empty Host after all others, then Via
		{0, of("A", "1"), of("A", "1", "Host", "", "Via", "1.0 p")},
		{0, of("Via", "1.1 a", "A", "1"), of("Via", "1.1 a, 1.0 p", "A", "1", "Host", "")},
		{1, of("hOST", "", "A", "1"), of("hOST", "", "A", "1", "Via", "1.1 p")}, // there is one
		{1, of("Host", "a", "host", "b"), of("Host", "a", "host", "b", "Via", "1.1 p")},
		{1, of("Host", "a", "Connection", "host"), of("Host", "", "Via", "1.1 p")}, // there is none any more
		{1, of("Host", "a", "via", "1.0 x", "Connection", "close, Via"), of("Host", "a", "Via", "1.1 p")},
		{1, of("VIA", "1.0 x", "Host", "a", "via", "1.1 y, 1.1 z"), of("VIA", "1.0 x, 1.1 y, 1.1 z, 1.1 p", "Host", "a")},
		{1, of("Host", "a", "Content-Length", "3", "content-length", "3", "A", "1"), of("Host", "a", "A", "1", "Via", "1.1 p")},
		{1, of("Expect", "100-continue", "Host", "a", "expect", "x"), of("Host", "a", "Via", "1.1 p")},
		{1, of("Host", "a", "Transfer-Encoding", "chunked", "Trailer", "T", "TE", "trailers", "Upgrade", "x", "Keep-Alive", "y", "Proxy-Connection", "z", "Connection", "te, upgrade, X", "x", "1", "Y", "2"), of("Host", "a", "Y", "2", "Via", "1.1 p")},
		{1, of("Host", "a", "Cache-Control", "no-cache", "Cookie", "b", "Authorization", "c", "Proxy-Authorization", "d", "Range", "e"), of("Host", "a", "Cache-Control", "no-cache", "Cookie", "b", "Authorization", "c", "Proxy-Authorization", "d", "Range", "e", "Via", "1.1 p")},
		{7, of("Host", "a"), of("Host", "a", "Via", "1.7 p")},
		{math.MinInt64, of("Host", "a"), of("Host", "a", "Via", "1.-9223372036854775808 p")},
		{1, of("", "1", "a b", "2\r\n"), of("", "1", "a b", "2\r\n", "Host", "", "Via", "1.1 p")}, // fields that are not valid
	} {
		m := get(x.minor, x.l...)
		if got, e := hop.Forward(m, "p"); e != api.OK || !equal(got, get(1, x.want...)) {
			t.Errorf("Forward(%+v) = %+v, %d", m, got, e)
		}
	}
}

// P7.2: what is passed on of a response.
func TestForwardOfResponses(t *testing.T) {
	for _, x := range []struct {
		minor   int
		l, want []api.Field
	}{
		{1, nil, of("Via", "1.1 p")}, // without a Host
		{0, of("A", "1", "B", "2"), of("A", "1", "B", "2", "Via", "1.0 p")},
		{1, of("Content-Length", "3", "CONTENT-LENGTH", "", "A", "1"), of("A", "1", "Via", "1.1 p")},
		{1, of("Expect", "x", "Host", "a"), of("Expect", "x", "Host", "a", "Via", "1.1 p")}, // these are left
		{1, of("Connection", "expect, Host", "Expect", "x", "Host", "a"), of("Via", "1.1 p")},
		{1, of("Transfer-Encoding", "chunked", "Trailer", "T", "Connection", "close", "Set-Cookie", "a", "Set-Cookie", "b"), of("Set-Cookie", "a", "Set-Cookie", "b", "Via", "1.1 p")},
		{1, of("via", "1.0 x", "Age", "5", "Via", "y"), of("via", "1.0 x, y, 1.1 p", "Age", "5")},
	} {
		m := answer(x.minor, x.l...)
		if got, e := hop.Forward(m, "p"); e != api.OK || !equal(got, answer(1, x.want...)) {
			t.Errorf("Forward(%+v) = %+v, %d", m, got, e)
		}
	}
}

// P7.2: the parts beside the fields, also those that a message cannot have at once.
func TestForwardOfTheOtherParts(t *testing.T) {
	trailers := of("T", "1")
	for _, x := range []struct{ m, want api.Msg }{
		{api.Msg{}, api.Msg{Minor: 1, Fields: of("Via", "1.0 p")}},
		{
			api.Msg{Method: "POST", Target: "http://A?x", Minor: 1, Fields: of("Host", "a"), Body: "abc\x00\r\n", Trailers: trailers},
			api.Msg{Method: "POST", Target: "http://A?x", Minor: 1, Fields: of("Host", "a", "Via", "1.1 p"), Body: "abc\x00\r\n"},
		},
		{
			api.Msg{Status: 404, Reason: "Not Found", Fields: of("Trailer", "T"), Body: "x", Trailers: trailers},
			api.Msg{Status: 404, Reason: "Not Found", Minor: 1, Fields: of("Via", "1.0 p"), Body: "x"},
		},
		{
			api.Msg{Method: "G T", Target: "#", Status: -1, Reason: "\n", Minor: 2, Fields: of("Expect", "x")},
			api.Msg{Method: "G T", Target: "#", Status: -1, Reason: "\n", Minor: 1, Fields: of("Host", "", "Via", "1.2 p")},
		},
		{
			api.Msg{Target: "/", Status: 200, Fields: of("Expect", "x")}, // without a Method it is no request
			api.Msg{Target: "/", Status: 200, Minor: 1, Fields: of("Expect", "x", "Via", "1.0 p")},
		},
	} {
		if got, e := hop.Forward(x.m, "p"); e != api.OK || !equal(got, x.want) {
			t.Errorf("Forward(%+v) = %+v, %d", x.m, got, e)
		}
	}
}

// P7.2: which names a proxy can have.
func TestForwardOfNames(t *testing.T) {
	m := get(1, of("Host", "a")...)
	check := func(name string) {
		want, wrong := get(1, of("Host", "a", "Via", "1.1 "+name)...), api.OK
		if !token.Token(name) {
			want, wrong = api.Msg{}, api.ErrBad
		}
		if got, e := hop.Forward(m, name); e != wrong || !equal(got, want) {
			t.Errorf("Forward to %q = %+v, %d", name, got, e)
		}
	}
	for _, name := range []string{"", " ", "p", "half-way.house_1", "a b", "a, b", "a:80", "a/b", `"a"`, "(a)", "p\r\n", "\u00e9"} {
		check(name)
	}
	for c := range 256 {
		s := string([]byte{byte(c)})
		check(s)
		check(s + "p")
		check("p" + s)
	}
	if got, e := hop.Forward(api.Msg{}, ""); e != api.ErrBad || !equal(got, api.Msg{}) {
		t.Errorf("%+v, %d", got, e)
	}
}

// slowFields is the promise for the fields, step by step.
func slowFields(m api.Msg, name string) []api.Field {
	l := field.Del(slowStrip(m.Fields), "content-length")
	if m.Method != "" {
		l = field.Del(l, "expect")
		if len(field.All(l, "host")) == 0 {
			l = append(l, api.Field{Name: "Host"})
		}
	}
	return hop.Via(l, m.Minor, name)
}

func TestForwardOfShortLists(t *testing.T) {
	lists(func(l []api.Field) {
		for minor := range 2 {
			for _, m := range []api.Msg{get(minor, l...), answer(minor, l...)} {
				want := m
				want.Minor, want.Fields = 1, slowFields(m, "q")
				if got, e := hop.Forward(m, "q"); e != api.OK || !equal(got, want) {
					t.Fatalf("Forward(%+v) = %+v, %d", m, got, e)
				}
			}
		}
	})
}

// P7.2: whether the connection ends.
func TestCloses(t *testing.T) {
	for _, x := range []struct {
		l        []api.Field
		old, new bool // in version 1.0, in version 1.1
	}{
		{nil, true, false},
		{of("Connection", ""), true, false},
		{of("Connection", "close"), true, true},
		{of("connection", "CLOSE"), true, true},
		{of("CONNECTION", "x,\tClose ,y"), true, true},
		{of("Connection", "keep-alive"), false, false},
		{of("Connection", "Keep-Alive"), false, false},
		{of("Connection", "x", "A", "1", "connection", "y, KEEP-ALIVE"), false, false},
		{of("Connection", "keep-alive, close"), true, true},
		{of("Connection", "close, keep-alive"), true, true},
		{of("Connection", "keep-alive", "Connection", "close"), true, true},
		{of("Connection", "close", "Connection", "keep-alive"), true, true},
		{of("Connection", "close keep-alive"), true, false}, // one part
		{of("Connection", "x close"), true, false},
		{of("Connection", `"close"`), true, false},
		{of("Connection", `"x, close`), true, false},
		{of("Connection", `"x, close`, "Connection", "close"), true, true},
		{of("Connection", `"keep-alive"`), true, false},
		{of("Connection", "closed, close=1, clos, \xe7lose, \u212aeep-alive, keep-alives, keepalive"), true, false},
		{of("Connection", "upgrade"), true, false},
		{of("Keep-Alive", "timeout=5"), true, false}, // other fields
		{of("Proxy-Connection", "keep-alive"), true, false},
		{of("Proxy-Connection", "close", "close", "close", "X", "close", "TE", "close"), true, false},
		{of("Connection ", "close"), true, false},
	} {
		for minor, closes := range []bool{x.old, x.new, x.new} {
			for _, m := range []api.Msg{get(minor, x.l...), answer(minor, x.l...), {Minor: minor, Fields: x.l}} {
				m.Trailers = of("Connection", "close") // not among the fields
				if got := hop.Closes(m); got != closes {
					t.Errorf("Closes(%+v) = %t", m, got)
				}
				m.Minor = -m.Minor
				if got := hop.Closes(m); got != closes {
					t.Errorf("Closes(%+v) = %t", m, got)
				}
			}
		}
	}
	for _, minor := range []int{math.MinInt64, math.MinInt64 + 1, 10, 1 << 32, math.MaxInt64} { // only 0 is 0
		if hop.Closes(get(minor)) || !hop.Closes(get(minor, of("Connection", "close")...)) {
			t.Errorf("Closes of version 1.%d", minor)
		}
	}
}

// P7.2: the promise, word by word.
func TestClosesOfShortLists(t *testing.T) {
	lists(func(l []api.Field) {
		closes, keeps := false, false
		for _, part := range field.List(l, "connection") {
			closes = closes || token.Lower(part) == "close"
			keeps = keeps || token.Lower(part) == "keep-alive"
		}
		for minor := range 2 {
			if got := hop.Closes(get(minor, l...)); got != (closes || minor == 0 && !keeps) {
				t.Fatalf("Closes of %q in version 1.%d = %t", l, minor, got)
			}
		}
	})
}

// twice checks that m, forwarded twice, has two more entries in Via than are passed on of its own, and no hop-by-hop field; the rest stays.
func twice(t *testing.T, m api.Msg) {
	t.Helper()
	once, e := hop.Forward(m, "p")
	again, f := hop.Forward(once, "q")
	if e != api.OK || f != api.OK {
		t.Fatalf("%+v: %d, %d", m, e, f)
	}
	before, after := field.List(hop.Strip(m.Fields), "Via"), field.List(again.Fields, "Via")
	entries := []string{"1.0 p", "1.1 q"}
	if m.Minor == 1 {
		entries[0] = "1.1 p"
	}
	if !slices.Equal(after, append(before, entries...)) || len(field.All(again.Fields, "Via")) != 1 {
		t.Fatalf("%+v has %q", m, again.Fields)
	}
	for _, f := range again.Fields {
		if hop.Hop(f.Name) {
			t.Fatalf("%+v has %q", m, again.Fields)
		}
	}
	once.Fields, again.Fields = field.Del(once.Fields, "Via"), field.Del(again.Fields, "Via")
	if !equal(once, again) {
		t.Fatalf("%+v: %+v, then %+v", m, once, again)
	}
}

// P7.3: messages that are forwarded twice.
func TestForwardTwice(t *testing.T) {
	lists(func(l []api.Field) {
		for minor := range 2 {
			twice(t, get(minor, l...))
			twice(t, answer(minor, l...))
		}
	})
}

// P7.3: a request that was parsed is passed on as one that is well-formed in version 1.1.
func TestForwardOfParsedRequests(t *testing.T) {
	const s = "POST /p HTTP/1.1\r\nHost: a\r\nConnection: close, X, Host\r\nX: 1\r\nTransfer-Encoding: chunked\r\nTE: trailers\r\nExpect: 100-continue\r\nY: 2\r\n\r\n3\r\nabc\r\n0\r\nT: u\r\n\r\n" +
		"GET /q HTTP/1.0\r\nVia: 1.0 a\r\nContent-Length: 2\r\n\r\nde"
	l, status := message.All(api.Limits{Line: 100, Head: 1000, Count: 10, Body: 10}, s)
	if len(l) != 2 || status != 0 {
		t.Fatalf("%+v, %d", l, status)
	}
	for i, want := range []api.Msg{
		{Method: "POST", Target: "/p", Minor: 1, Fields: of("Y", "2", "Host", "", "Via", "1.1 p"), Body: "abc"},
		{Method: "GET", Target: "/q", Minor: 1, Fields: of("Via", "1.0 a, 1.0 p", "Host", ""), Body: "de"},
	} {
		if got, e := hop.Forward(l[i], "p"); e != api.OK || !equal(got, want) {
			t.Errorf("%+v, %d", got, e)
		}
		twice(t, l[i])
	}
}
