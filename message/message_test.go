package message_test

import (
	"slices"
	"strings"
	"testing"

	"halfwayhouse/api"
	"halfwayhouse/message"
)

// of makes a list of names and values in turn.
func of(texts ...string) []api.Field {
	var l []api.Field
	for i := 0; i < len(texts); i += 2 {
		l = append(l, api.Field{Name: texts[i], Value: texts[i+1]})
	}
	return l
}

// wide are limits that nothing here exceeds.
func wide() api.Limits { return api.Limits{Line: 1 << 20, Head: 1 << 20, Count: 100, Body: 1 << 20} }

// get is a request with that first line, content and fields.
func get(method, target string, minor int, body string, l ...api.Field) api.Msg {
	return api.Msg{Method: method, Target: target, Minor: minor, Fields: l, Body: body}
}

// answer is a response of version 1.1.
func answer(status int, reason, body string, l ...api.Field) api.Msg {
	return api.Msg{Status: status, Reason: reason, Minor: 1, Fields: l, Body: body}
}

// equal reports whether a and b are equal. Names of fields, too, have to be equal.
func equal(a, b api.Msg) bool {
	f, g := a.Fields, b.Fields
	t, u := a.Trailers, b.Trailers
	return message.Same(a, b) && slices.Equal(f, g) && slices.Equal(t, u)
}

// A want is what a parser has to tell after it was fed: how many bytes it consumed, the status, the bytes of an incomplete message, and the message that waits.
type want struct {
	n, status, left int
	waits           bool
	msg             api.Msg
}

// told returns what p tells after it was fed all of s, which is cut before each of the places, in order.
func told(p *message.Parser, s string, cuts ...int) want {
	var w want
	from := 0
	for _, to := range append(cuts, len(s)) {
		n, status := p.Feed(s[from:to])
		w.n += n
		w.status = status
		from = to
	}
	if again := p.Status(); again != w.status {
		w.status = -again // never what is asked for
	}
	w.left = p.Left()
	w.msg, w.waits = p.Next()
	return w
}

// same reports whether v and w are equal.
func same(v, w want) bool {
	return v.n == w.n && v.status == w.status && v.left == w.left && v.waits == w.waits && equal(v.msg, w.msg)
}

// A maker makes a parser that is about to be fed.
type maker func() *message.Parser

func requests(l api.Limits) maker {
	return func() *message.Parser { return message.Requests(l) }
}

func responses(l api.Limits, methods ...string) maker {
	return func() *message.Parser {
		p := message.Responses(l)
		for _, method := range methods {
			p.Expect(method)
		}
		return p
	}
}

// everywhere are the places before which a text can be cut into its bytes.
func everywhere(s string) []int {
	cuts := make([]int, len(s))
	for i := range s {
		cuts[i] = i
	}
	return cuts
}

// check feeds s to a parser in one piece, byte by byte, and in two pieces.
func check(t *testing.T, make maker, s string, w want) {
	t.Helper()
	ways := [][]int{nil, everywhere(s)}
	for i := 0; i < len(s); i += max(1, len(s)/200) {
		ways = append(ways, []int{i})
	}
	for _, cuts := range ways {
		if v := told(make(), s, cuts...); !same(v, w) {
			t.Errorf("%q cut at %v: %+v, not %+v", s, cuts, v, w)
			return
		}
	}
}

// checkWhole feeds s, which is one message, with and without bytes after it, and each beginning of it.
func checkWhole(t *testing.T, make maker, s string, m api.Msg) {
	t.Helper()
	w := want{n: len(s), waits: true, msg: m}
	for _, more := range []string{"", "x", "\n", "\r\n", s} {
		check(t, make, s+more, w)
	}
	for i := range s { // what is missing may still come
		if v, w := told(make(), s[:i]), (want{n: i, left: i}); !same(v, w) {
			t.Errorf("%q: %+v, not %+v", s[:i], v, w)
		}
	}
}

// P6.1, P6.2: requests that are complete.
func TestRequests(t *testing.T) {
	const sized = "POST /p HTTP/1.1\r\nHost: a\r\nContent-Length: "
	const coded = "POST /p HTTP/1.1\r\nHost: a\r\nTransfer-Encoding: chunked\r\n\r\n"
	host := of("Host", "a")[0]
	length := func(value string) api.Field { return api.Field{Name: "Content-Length", Value: value} }
	chunks := of("Transfer-Encoding", "chunked")[0]
	trailed := get("POST", "/p", 1, "abc", host, chunks)
	trailed.Trailers = of("T", "1", "Host", "b")
	for _, x := range []struct {
		s string
		m api.Msg
	}{
		{"GET / HTTP/1.1\r\nHost: a\r\n\r\n", get("GET", "/", 1, "", host)},
		{"\r\nGET / HTTP/1.1\r\nHost: a\r\n\r\n", get("GET", "/", 1, "", host)},
		{"GET / HTTP/1.0\r\n\r\n", get("GET", "/", 0, "")},
		{"\r\nGET / HTTP/1.0\r\n\r\n", get("GET", "/", 0, "")},
		{"get http://A?x HTTP/1.0\r\nhOST:\ta \r\nA:\r\nA: b: c\r\n\r\n", get("get", "http://A?x", 0, "", of("hOST", "a", "A", "", "A", "b: c")...)},
		{"x * HTTP/1.1\r\nHost:\r\n\r\n", get("x", "*", 1, "", of("Host", "")...)},
		{"CONNECT a:1 HTTP/1.1\r\nHost: a:1\r\n\r\n", get("CONNECT", "a:1", 1, "", of("Host", "a:1")...)},
		{"GET # HTTP/1.1\r\nHost: a\r\n\r\n", get("GET", "#", 1, "", host)}, // the target is not looked at
		{sized + "0\r\n\r\n", get("POST", "/p", 1, "", host, length("0"))},
		{sized + "3\r\n\r\nabc", get("POST", "/p", 1, "abc", host, length("3"))},
		{sized + "3, 3\r\n\r\n\r\n\r", get("POST", "/p", 1, "\r\n\r", host, length("3, 3"))},
		{sized + "2\r\n\r\n\x00\xff", get("POST", "/p", 1, "\x00\xff", host, length("2"))},
		{"GET / HTTP/1.0\r\nContent-Length: 1\r\n\r\na", get("GET", "/", 0, "a", length("1"))},
		{"HEAD / HTTP/1.1\r\nHost: a\r\nContent-Length: 1\r\n\r\na", get("HEAD", "/", 1, "a", host, length("1"))},
		{coded + "0\r\n\r\n", get("POST", "/p", 1, "", host, chunks)},
		{coded + "2;x\r\nab\r\n1\r\nc\r\n0\r\n\r\n", get("POST", "/p", 1, "abc", host, chunks)},
		{coded + "3\r\nabc\r\n0\r\nT:1\r\nHost: b\r\n\r\n", trailed},
	} {
		checkWhole(t, requests(wide()), x.s, x.m)
	}
}

// P6.1, P6.2: responses that are complete without the end of the connection.
func TestResponses(t *testing.T) {
	const length = "Content-Length: 3\r\n\r\n"
	three := of("Content-Length", "3")[0]
	chunks := of("Transfer-Encoding", "chunked")[0]
	trailed := answer(200, "OK", "abc", chunks)
	trailed.Trailers = of("T", "1")
	old := answer(404, "Not Found", "abc", three)
	old.Minor = 0
	for _, x := range []struct {
		method, s string
		m         api.Msg
	}{
		{"GET", "HTTP/1.1 200 OK\r\n" + length + "abc", answer(200, "OK", "abc", three)},
		{"GET", "HTTP/1.1 200 \r\nContent-Length: 0\r\n\r\n", answer(200, "", "", of("Content-Length", "0")...)},
		{"GET", "HTTP/1.0 404 Not Found\r\n" + length + "abc", old},
		{"POST", "HTTP/1.1 200 OK\r\nTransfer-Encoding: chunked\r\n\r\n3\r\nabc\r\n0\r\nT:1\r\n\r\n", trailed},
		{"HEAD", "HTTP/1.1 200 OK\r\n" + length, answer(200, "OK", "", three)},
		{"HEAD", "HTTP/1.1 200 OK\r\n\r\n", answer(200, "OK", "")},
		{"head", "HTTP/1.1 200 OK\r\n" + length + "abc", answer(200, "OK", "abc", three)},
		{"CONNECT", "HTTP/1.1 200 OK\r\n" + length, answer(200, "OK", "", three)},
		{"CONNECT", "HTTP/1.1 404 x\r\n" + length + "abc", answer(404, "x", "abc", three)},
		{"GET", "HTTP/1.1 204 x\r\n" + length, answer(204, "x", "", three)},
		{"GET", "HTTP/1.1 304 x\r\n" + length, answer(304, "x", "", three)},
		{"GET", "HTTP/1.1 304 x\r\nContent-Length: x\r\nTransfer-Encoding: gzip\r\n\r\n", answer(304, "x", "", of("Content-Length", "x", "Transfer-Encoding", "gzip")...)},
		{"GET", "HTTP/1.1 304 x\r\nContent-Length: 9999999999\r\n\r\n", answer(304, "x", "", of("Content-Length", "9999999999")...)},
		{"GET", "HTTP/1.1 100 Continue\r\n\r\n", answer(100, "Continue", "")},
		{"GET", "HTTP/1.1 199 x\r\n" + length, answer(199, "x", "", three)},
		{"GET", "HTTP/1.1 204 x\r\nHost: a b\r\nhost:c\r\n\r\n", answer(204, "x", "", of("Host", "a b", "host", "c")...)}, // only requests have a host
	} {
		checkWhole(t, responses(wide(), x.method), x.s, x.m)
	}
}

// P6.1: content that extends to the end of the connection.
func TestContentToTheEnd(t *testing.T) {
	const head = "HTTP/1.1 200 OK\r\nA:b\r\n\r\n"
	for _, body := range []string{"", "a", "\r\n", "HTTP/1.1 200 OK\r\n\r\n", "\x00\xff", strings.Repeat("x", 1000)} {
		s := head + body
		check(t, responses(wide(), "GET", "GET"), s, want{n: len(s), left: len(s)})
		for cut := range s {
			p := responses(wide(), "GET", "HEAD")()
			p.Feed(s[:cut])
			p.Feed(s[cut:])
			if status := p.End(); status != 0 || p.Status() != 0 || p.Left() != 0 {
				t.Errorf("%q: End %d, Status %d, Left %d", s, status, p.Status(), p.Left())
			}
			if v, w := told(p, "x"), (want{waits: true, msg: answer(200, "OK", body, of("A", "b")...)}); !same(v, w) {
				t.Errorf("%q: %+v, not %+v", s, v, w)
			}
			if v, w := told(p, head), (want{n: len(head), waits: true, msg: answer(200, "OK", "", of("A", "b")...)}); !same(v, w) {
				t.Errorf("%q, and another response: %+v, not %+v", s, v, w)
			}
		}
	}
	for i := range head { // a head that is not complete is no content
		p := responses(wide(), "GET")()
		p.Feed(head[:i])
		if status := p.End(); i > 0 && status != 400 || i == 0 && status != 0 {
			t.Errorf("%q: End %d", head[:i], status)
		}
	}
}

// P6.1: what kind of flaw a beginning of a request has, and at which byte.
func TestFlawsOfRequests(t *testing.T) {
	const line = "GET / HTTP/1.1\r\n"
	const host = line + "Host: a\r\n"
	const coded = host + "Transfer-Encoding: chunked\r\n\r\n"
	for s, status := range map[string]int{ // the flaw is at the last byte
		"\n": 400, "\r\r": 400, "\rG": 400, "G\n": 400, "GET /\rx": 400, "GET / HTTP/1.1\n": 400, "GET / HTTP/2.0\n": 400, // lines
		"\r\n\n": 400, "\r\n\r\n": 400, "\r\n\rx": 400, line + "\n": 400, line + "\rH": 400, line + "Host: a\n": 400, line + "Host: a\r\r": 400, host + "\n": 400, host + "\rx": 400,
		" \r\n": 400, "GET\r\n": 400, "GET /\r\n": 400, "GET  / HTTP/1.1\r\n": 400, " GET / HTTP/1.1\r\n": 400, "GET / HTTP/1.1 \r\n": 400, "GET / HTTP/1.x\r\n": 400, "GET / http/1.1\r\n": 400, "G:T / HTTP/1.1\r\n": 400, "GET /\x80 HTTP/1.1\r\n": 400, "G:T / HTTP/2.0\r\n": 400, "HTTP/1.1 200 OK\r\n": 400, // first lines
		"GET / HTTP/2.0\r\n": 505, "GET / HTTP/1.2\r\n": 505, "GET / HTTP/0.9\r\n": 505, "\r\nGET / HTTP/3.0\r\n": 505,
		line + "x\r\n": 400, line + " \r\n": 400, line + ": a\r\n": 400, line + "Host : a\r\n": 400, host + " folded: x\r\n": 400, line + "A: \x00\r\n": 400, line + "A: \x7f\r\n": 400, // fields
		line + "\r\n": 400, line + "A: b\r\n\r\n": 400, host + "Host: a\r\n\r\n": 400, host + "hOST:\r\n\r\n": 400, line + "Host: a b\r\n\r\n": 400, line + "Host: a, a\r\n\r\n": 400, line + "Host: a/\r\n\r\n": 400, line + "Host: http://a\r\n\r\n": 400, // hosts
		"GET / HTTP/1.0\r\nHost: a\r\nHost: a\r\n\r\n": 400, "GET / HTTP/1.0\r\nHost: /\r\n\r\n": 400, "GET http://a HTTP/1.1\r\n\r\n": 400,
		host + "Content-Length: x\r\n\r\n": 400, host + "Content-Length:\r\n\r\n": 400, host + "Content-Length: 5, 6\r\n\r\n": 400, host + "Content-Length: 5\r\nContent-Length: 6\r\n\r\n": 400, host + "Content-Length: -1\r\n\r\n": 400, // framing
		host + "Content-Length: 5\r\nTransfer-Encoding: chunked\r\n\r\n": 400, host + "Transfer-Encoding: gzip\r\n\r\n": 501, host + "Transfer-Encoding:\r\n\r\n": 501, "GET / HTTP/1.0\r\nTransfer-Encoding: chunked\r\n\r\n": 400,
		line + "Transfer-Encoding: gzip\r\n\r\n": 400, line + "Host: /\r\nTransfer-Encoding: gzip\r\n\r\n": 400, line + "Content-Length: 9999999999\r\n\r\n": 400, // the host comes first
		host + "Content-Length: 1048577\r\n\r\n": 413, host + "Content-Length: 9007199254740991\r\n\r\n": 413, host + "Content-Length: 9007199254740992\r\n\r\n": 400,
		coded + "\n": 400, coded + "x\r\n": 400, coded + "1\r\nab": 400, coded + "0\r\nx\r\n": 400, coded + "100001\r\n": 413, coded + "20000000000000\r\n": 413, // chunks
	} {
		checkFlaw(t, requests(wide()), s, status)
	}
}

// checkFlaw feeds s, which has a flaw at its last byte: it persists, and nothing is consumed any more.
func checkFlaw(t *testing.T, make maker, s string, status int) {
	t.Helper()
	w := want{n: len(s), status: status, left: len(s)}
	for _, more := range []string{"", "\r\n", "GET / HTTP/1.0\r\n\r\n"} {
		check(t, make, s+more, w)
	}
	if v, w := told(make(), s[:len(s)-1]), (want{n: len(s) - 1, left: len(s) - 1}); !same(v, w) {
		t.Errorf("%q: %+v, not %+v", s[:len(s)-1], v, w)
	}
	p := make()
	told(p, s)
	p.Expect("GET")
	for range 2 {
		if v, w := told(p, "\r\nGET / HTTP/1.0\r\n\r\n"), (want{status: status, left: len(s)}); !same(v, w) {
			t.Errorf("after %q: %+v, not %+v", s, v, w)
		}
		if again := p.End(); again != status {
			t.Errorf("after %q: End %d, not %d", s, again, status)
		}
	}
}

// P6.1: the same of responses.
func TestFlawsOfResponses(t *testing.T) {
	const line = "HTTP/1.1 200 OK\r\n"
	for s, status := range map[string]int{
		"\n": 400, "\rx": 400, "\r\n": 400, "x\r\n": 400, "GET / HTTP/1.1\r\n": 400, "HTTP/2.0 200 OK\r\n": 400, "HTTP/1.2 200 OK\r\n": 400, "HTTP/1.1 200\r\n": 400, "HTTP/1.1 20 OK\r\n": 400, "HTTP/1.1 099 x\r\n": 400, "HTTP/1.1 600 x\r\n": 400, "HTTP/1.1 200 \x00\r\n": 400, "http/1.1 200 OK\r\n": 400,
		"HTTP/1.1 200 OK\n": 400, line + "\n": 400, line + "a\r\n": 400, line + "a :b\r\n": 400, line + "a:\x01\r\n": 400, line + "a:b\r\n c\r\n": 400,
		line + "Content-Length: x\r\n\r\n": 400, line + "Content-Length: 1\r\nTransfer-Encoding: chunked\r\n\r\n": 400, line + "Transfer-Encoding: x\r\n\r\n": 501, "HTTP/1.0 200 OK\r\nTransfer-Encoding: chunked\r\n\r\n": 400, line + "Content-Length: 1048577\r\n\r\n": 413, line + "Content-Length: 9007199254740991\r\n\r\n": 413,
		line + "Transfer-Encoding: chunked\r\n\r\nx\r\n": 400, line + "Transfer-Encoding: chunked\r\n\r\n100001\r\n": 413,
	} {
		checkFlaw(t, responses(wide(), "GET"), s, status)
	}
}

// P6.1: what Host may be.
func TestHost(t *testing.T) {
	for value, fits := range map[string]bool{
		"": true, "a": true, "A.b-c": true, "a:80": true, "a:": true, "[::1]": true, "[::1]:8080": true, "1.2.3.4": true, "%41": true, "a,b": true,
		"a b": false, "a, b": false, "a/b": false, "a:x": false, "a:123456": false, ":80": false, "[]": false, "[g]": false, "[::1": false, "a@b": false, "\"a\"": false, "\x80": false, "a:1:2": false,
	} {
		for _, minor := range []string{"0", "1"} {
			s := "GET / HTTP/1." + minor + "\r\nX: y\r\nhost:" + value + " \r\n\r\n"
			if v := told(message.Requests(wide()), s); v.waits != fits || v.n != len(s) || fits == (v.status == 400) {
				t.Errorf("%q: %+v", s, v)
			}
		}
	}
}

// P6.1: the end of the connection inside, between and after requests.
func TestEnd(t *testing.T) {
	const whole = "GET / HTTP/1.1\r\nHost: a\r\nContent-Length: 2\r\n\r\nxy"
	const coded = "\r\nGET / HTTP/1.1\r\nHost: a\r\nTransfer-Encoding: chunked\r\n\r\n1\r\na\r\n0\r\nT: 1\r\n\r\n"
	for _, s := range []string{whole, coded} {
		for before := range 2 {
			for i := range len(s) + 1 {
				p := message.Requests(wide())
				if before == 1 {
					told(p, whole)
				}
				p.Feed(s[:i])
				status, left := 0, 0
				if i > 0 && i < len(s) {
					status, left = 400, i
				}
				for range 2 {
					if got := p.End(); got != status || p.Status() != status || p.Left() != left {
						t.Errorf("%q: End %d, Status %d, Left %d", s[:i], got, p.Status(), p.Left())
					}
				}
				if m, ok := p.Next(); ok != (i == len(s)) || !ok && !equal(m, api.Msg{}) {
					t.Errorf("%q: %+v, %t", s[:i], m, ok)
				}
				if n, got := p.Feed(s[i:]); status != 0 && (n != 0 || got != status) {
					t.Errorf("%q: after the end %d, %d", s[:i], n, got)
				}
			}
		}
	}
}

// P6.1: of which parsers and methods responses can be expected.
func TestExpect(t *testing.T) {
	var none *message.Parser
	for method, e := range map[string]api.Errno{"GET": api.OK, "get": api.OK, "x!#$%&'*+-.^_`|~9": api.OK, "": api.ErrBad, " ": api.ErrBad, "G T": api.ErrBad, "GET ": api.ErrBad, "G/T": api.ErrBad, "\x80": api.ErrBad, "G\n": api.ErrBad} {
		if got := message.Responses(wide()).Expect(method); got != e {
			t.Errorf("Expect(%q) = %d", method, got)
		}
		if got := message.Requests(wide()).Expect(method); got != api.ErrBad {
			t.Errorf("Expect(%q) of a parser of requests = %d", method, got)
		}
		if got := none.Expect(method); got != api.ErrNil {
			t.Errorf("Expect(%q) of no parser = %d", method, got)
		}
	}
}

// P6.1: each response takes a method, but for those from 100 to 199; without one nothing is consumed.
func TestMethodsInOrder(t *testing.T) {
	const s = "HTTP/1.1 200 OK\r\nContent-Length: 1\r\n\r\n"
	sized := of("Content-Length", "1")[0]
	with, without := want{n: len(s) + 1, waits: true, msg: answer(200, "OK", "a", sized)}, want{n: len(s), waits: true, msg: answer(200, "OK", "", sized)}
	between := want{n: len("HTTP/1.1 199 x\r\n\r\n"), waits: true, msg: answer(199, "x", "")}
	p := message.Responses(wide())
	feed := func(s string, w want) {
		t.Helper()
		if v := told(p, s); !same(v, w) {
			t.Errorf("%q: %+v, not %+v", s, v, w)
		}
	}
	feed(s, want{})
	feed("\n", want{})
	p.Expect("no method")
	feed(s, want{})
	p.Expect("HEAD")
	p.Expect("GET")
	feed(s+"a", without)
	feed("HTTP/1.1 199 x\r\n\r\n", between)
	feed("HTTP/1.1 199 x\r\n\r\n", between)
	p.Expect("CONNECT")
	feed(s+"a", with)
	feed("HTTP/1.1 199 x\r\n\r\n"+s, between)
	feed(s+"a", without)
	feed(s+"a", want{})
	if status := p.End(); status != 0 {
		t.Errorf("End %d", status)
	}
	p.Expect("GET")
	feed(s[:20], want{n: 20, left: 20})
	p.Expect("HEAD")
	feed(s[20:], want{n: len(s) - 20, left: len(s)}) // of the first one, which is no HEAD
	feed("a"+s, want{n: 1, waits: true, msg: with.msg})
	feed(s+"a", without)
}

// P6.1, P6.2: a message that waits is neither read over nor lost.
func TestWaiting(t *testing.T) {
	const s = "POST / HTTP/1.1\r\nHost: a\r\nContent-Length: 2\r\n\r\nxy"
	p := message.Requests(wide())
	if n, status := p.Feed(s + "GET"); n != len(s) || status != 0 {
		t.Error(n, status)
	}
	for _, more := range []string{"", "GET", "\n", s} {
		if n, status := p.Feed(more); n != 0 || status != 0 || p.Left() != 0 || p.Status() != 0 || p.End() != 0 {
			t.Errorf("%q: %d, %d", more, n, status)
		}
	}
	if m, ok := p.Next(); !ok || !equal(m, get("POST", "/", 1, "xy", of("Host", "a", "Content-Length", "2")...)) {
		t.Errorf("%+v, %t", m, ok)
	}
	if m, ok := p.Next(); ok || !equal(m, api.Msg{}) {
		t.Errorf("%+v, %t", m, ok)
	}
	if v, w := told(p, "\n"), (want{n: 1, status: 400, left: 1}); !same(v, w) {
		t.Errorf("%+v, not %+v", v, w)
	}
}

// P6.2: messages that differ in one part, and those whose parts are only written otherwise.
func TestSame(t *testing.T) {
	a := api.Msg{Method: "GET", Target: "/", Status: 200, Reason: "OK", Minor: 1, Fields: of("A", "b", "c", "d"), Body: "x", Trailers: of("T", "u")}
	if !message.Same(a, a) || !message.Same(api.Msg{}, api.Msg{Fields: []api.Field{}, Trailers: []api.Field{}}) {
		t.Error("equal ones are not the same")
	}
	cased := a
	cased.Fields, cased.Trailers = of("a", "b", "C", "d"), of("t", "u")
	if !message.Same(a, cased) || !message.Same(cased, a) {
		t.Error("names in another case are not the same")
	}
	for i, change := range []func(m *api.Msg){
		func(m *api.Msg) { m.Method = "get" }, func(m *api.Msg) { m.Target = "/a" }, func(m *api.Msg) { m.Status = 201 }, func(m *api.Msg) { m.Reason = "ok" }, func(m *api.Msg) { m.Minor = 0 }, func(m *api.Msg) { m.Body = "X" }, func(m *api.Msg) { m.Body = "" },
		func(m *api.Msg) { m.Fields = of("A", "B", "c", "d") }, func(m *api.Msg) { m.Fields = of("c", "d", "A", "b") }, func(m *api.Msg) { m.Fields = of("A", "b") }, func(m *api.Msg) { m.Fields = nil }, func(m *api.Msg) { m.Fields = of("A", "b", "c", "d", "T", "u") },
		func(m *api.Msg) { m.Trailers = nil }, func(m *api.Msg) { m.Trailers = of("T", "U") }, func(m *api.Msg) { m.Trailers = of("V", "u") }, func(m *api.Msg) { m.Trailers = of("T", "u", "T", "u") },
	} {
		b := a
		change(&b)
		if message.Same(a, b) || message.Same(b, a) || !message.Same(b, b) {
			t.Errorf("change %d", i)
		}
	}
}

// P6.2: all requests of a text, and how it ends.
func TestAll(t *testing.T) {
	const one, two, three = "GET / HTTP/1.1\r\nHost: a\r\n\r\n", "\r\nPOST /2 HTTP/1.0\r\nContent-Length: 3\r\n\r\nabc", "PUT /3 HTTP/1.1\r\nHost:\r\nTransfer-Encoding: chunked\r\n\r\n1\r\nx\r\n0\r\n\r\n"
	m := []api.Msg{get("GET", "/", 1, "", of("Host", "a")...), get("POST", "/2", 0, "abc", of("Content-Length", "3")...), get("PUT", "/3", 1, "x", of("Host", "", "Transfer-Encoding", "chunked")...)}
	for _, x := range []struct {
		s      string
		l      []api.Msg
		status int
	}{
		{"", nil, 0}, {one, m[:1], 0}, {two, m[1:2], 0}, {three, m[2:], 0}, {one + two + three, m, 0}, {one + one, []api.Msg{m[0], m[0]}, 0}, {three + two, []api.Msg{m[2], m[1]}, 0},
		{"\r\n", nil, 400}, {"G", nil, 400}, {one + "\r\n", m[:1], 400}, {one + "\r", m[:1], 400}, {one + two[:len(two)-1], m[:1], 400}, {one + two + three[:len(three)-1], m[:2], 400},
		{"\n" + one, nil, 400}, {one + "\r\n\r\n" + two, m[:1], 400}, {one + two + "GET / HTTP/2.0\r\n\r\n" + three, m[:2], 505}, {one + "GET / HTTP/1.1\r\nHost: a\r\nTransfer-Encoding: x\r\n\r\n" + one, m[:1], 501}, {two + "POST / HTTP/1.0\r\nContent-Length: 9999999\r\n\r\n", m[1:2], 413},
	} {
		if l, status := message.All(wide(), x.s); !slices.EqualFunc(l, x.l, equal) || status != x.status {
			t.Errorf("%q: %+v, %d", x.s, l, status)
		}
	}
	if l, status := message.All(api.Limits{Line: 30, Head: 30}, one); l != nil || status != 431 {
		t.Errorf("%+v, %d", l, status)
	}
	if l, status := message.All(wide(), strings.Repeat(one, 10000)); len(l) != 10000 || status != 0 {
		t.Errorf("%d, %d", len(l), status)
	}
}

// P6.1, P6.2: parsers that neither Requests nor Responses returned.
func TestParsersThatAreNone(t *testing.T) {
	const s = "HTTP/1.1 204 x\r\n\r\n"
	begun, waiting, flawed := responses(wide(), "GET", "GET")(), responses(wide(), "GET")(), responses(wide(), "GET")()
	begun.Feed(s[:5])
	waiting.Feed(s)
	flawed.Feed("x\r\n")
	a, b, c := *begun, *waiting, *flawed
	for i, none := range []*message.Parser{nil, {}, new(message.Parser), &a, &b, &c} {
		if e := none.Expect("GET"); e != api.ErrNil {
			t.Errorf("parser %d: Expect %d", i, e)
		}
		for _, s := range []string{"", s, s[5:], "\n", "GET / HTTP/1.0\r\n\r\n"} {
			if v := told(none, s); !same(v, want{}) || none.End() != 0 {
				t.Errorf("parser %d, %q: %+v", i, s, v)
			}
		}
	}
	if v, w := told(begun, s[5:]), (want{n: len(s) - 5, waits: true, msg: answer(204, "x", "")}); !same(v, w) {
		t.Errorf("the parser itself: %+v, not %+v", v, w)
	}
}

// P6.1: parsers have nothing in common.
func TestParsersAreApart(t *testing.T) {
	const s = "GET / HTTP/1.1\r\nHost: a\r\n\r\n"
	a, b, c := message.Requests(wide()), message.Requests(api.Limits{Line: 16}), responses(wide(), "HEAD")()
	a.Feed(s[:17])
	if v, w := told(b, "\n"), (want{n: 1, status: 400, left: 1}); !same(v, w) {
		t.Errorf("%+v", v)
	}
	if v, w := told(c, "HTTP/1.1 200 x\r\n\r\n"), (want{n: 18, waits: true, msg: answer(200, "x", "")}); !same(v, w) {
		t.Errorf("%+v", v)
	}
	if v, w := told(a, s[17:]), (want{n: len(s) - 17, waits: true, msg: get("GET", "/", 1, "", of("Host", "a")...)}); !same(v, w) {
		t.Errorf("%+v", v)
	}
}

// P6.3: messages one after the other are the same, wherever they are cut.
func TestManyCuts(t *testing.T) {
	const s = "\r\nGET / HTTP/1.0\r\n\r\nPOST /p HTTP/1.1\r\nHost: a\r\nTransfer-Encoding: chunked\r\n\r\n2\r\nab\r\n0\r\nT: 1\r\n\r\n\r\nPUT / HTTP/1.1\r\nHost: b\r\nContent-Length: 4\r\n\r\n\r\n\r\nGET / HTTP/1.1\r\n\r\n"
	whole, status := message.All(wide(), s)
	if len(whole) != 3 || status != 400 {
		t.Fatalf("%+v, %d", whole, status)
	}
	for i := range len(s) {
		for j := i; j <= len(s); j++ {
			p := message.Requests(wide())
			var all []api.Msg
			for _, piece := range []string{s[:i], s[i:j], s[j:]} {
				for {
					n, _ := p.Feed(piece)
					piece = piece[n:]
					m, ok := p.Next()
					if !ok {
						break
					}
					all = append(all, m)
				}
			}
			if !slices.EqualFunc(all, whole, equal) || p.Status() != 400 || p.End() != 400 {
				t.Fatalf("cut at %d and %d: %+v, %d", i, j, all, p.Status())
			}
		}
	}
}
