package emit_test

import (
	"math"
	"slices"
	"strings"
	"testing"

	"halfwayhouse/api"
	"halfwayhouse/emit"
	"halfwayhouse/message"
	"halfwayhouse/token"
)

// of makes a list of names and values in turn.
func of(texts ...string) []api.Field {
	var l []api.Field
	for i := 0; i < len(texts); i += 2 {
		l = append(l, api.Field{Name: texts[i], Value: texts[i+1]})
	}
	return l
}

// ask returns a request of version 1.1.
func ask(method, body string, l ...api.Field) api.Msg {
	return api.Msg{Method: method, Target: "/p?q", Minor: 1, Fields: l, Body: body}
}

// answer returns a response of version 1.1.
func answer(status int, body string, l ...api.Field) api.Msg {
	return api.Msg{Status: status, Reason: "R s", Minor: 1, Fields: l, Body: body}
}

// with returns m with those trailers.
func with(m api.Msg, trailers ...api.Field) api.Msg {
	m.Trailers = trailers
	return m
}

// old returns m in version 1.0.
func old(m api.Msg) api.Msg {
	m.Minor = 0
	return m
}

// lines joins lines with the line ends of HTTP. It has no end after the last one, which is the content.
func lines(l ...string) string { return strings.Join(l, "\r\n") }

// A result is what a function that formats returns.
type result struct {
	s string
	e api.Errno
}

func asked(m api.Msg) result {
	s, e := emit.Request(m)
	return result{s, e}
}

func told(m api.Msg, method string) result {
	s, e := emit.Response(m, method)
	return result{s, e}
}

func cut(m api.Msg, size int) result {
	s, e := emit.Chunked(m, size)
	return result{s, e}
}

// A checked is a message with what Check returns for it.
type checked struct {
	m api.Msg
	e api.Errno
}

// P8.1: which messages can be sent.
func messages() []checked {
	return []checked{
		{ask("GET", ""), api.OK},
		{old(ask("GET", "")), api.OK},
		{ask("post", "abc", of("a", "1", "A", "", "Host", "\xff")...), api.OK},
		{api.Msg{Method: "OPTIONS", Target: "*", Minor: 1}, api.OK},
		{api.Msg{Method: "CONNECT", Target: "a:1", Minor: 1}, api.OK},
		{api.Msg{Method: "G", Target: "#", Minor: 1}, api.OK}, // the line is valid, whatever the target denotes
		{answer(200, ""), api.OK},
		{old(answer(100, "")), api.OK},
		{answer(599, "\x00\r\n\r\n", of("Content-Type", "a")...), api.OK},
		{api.Msg{Status: 204, Minor: 1}, api.OK}, // an empty reason
		{with(ask("GET", ""), of("T", "1", "t", "")...), api.OK},
		{with(old(ask("GET", "")), of("T", "1")...), api.OK},
		{with(answer(304, ""), of("T", "1")...), api.OK},
		{with(answer(200, ""), of("Content-Length", "x", "Transfer-Encoding", "y")...), api.OK}, // only the fields are asked
		{ask("GET", "", of("Trailer", "T", "TE", "x", "Connection", "Content-Length", "Content-Encoding", "gzip", "Content-Lengt", "1", "Transfer-Encodings", "2")...), api.OK},

		{api.Msg{}, api.ErrBad}, // neither
		{api.Msg{Minor: 1}, api.ErrBad},
		{api.Msg{Minor: 1, Target: "/", Reason: "OK", Body: "a"}, api.ErrBad},
		{api.Msg{Minor: 1, Target: "/", Status: 200}, api.ErrBad}, // both
		{api.Msg{Minor: 1, Target: "/", Method: "GET", Status: 200}, api.ErrBad},
		{api.Msg{Minor: 1, Target: "/", Method: "GET", Status: -1}, api.ErrBad},
		{api.Msg{Minor: 1, Target: "/", Method: "GET", Reason: "OK"}, api.ErrBad},
		{api.Msg{Minor: 1, Target: "/", Method: "GET", Status: 200, Reason: "OK"}, api.ErrBad},
		{api.Msg{Minor: 1, Method: "GET", Status: 200, Reason: "OK"}, api.ErrBad},

		{api.Msg{Method: "GET", Target: "/", Minor: 2}, api.ErrBad}, // first lines
		{api.Msg{Method: "GET", Target: "/", Minor: -1}, api.ErrBad},
		{api.Msg{Method: "GET", Target: "/", Minor: math.MinInt64}, api.ErrBad},
		{api.Msg{Method: "GET", Target: "/", Minor: 1 << 32}, api.ErrBad},
		{api.Msg{Method: "GET", Minor: 1}, api.ErrBad},
		{api.Msg{Method: "GET", Target: "/ b", Minor: 1}, api.ErrBad},
		{api.Msg{Method: "GET", Target: "/\r\nA: b", Minor: 1}, api.ErrBad},
		{api.Msg{Method: "G T", Target: "/", Minor: 1}, api.ErrBad},
		{api.Msg{Method: " ", Target: "/", Minor: 1}, api.ErrBad},
		{api.Msg{Status: 200, Minor: 2}, api.ErrBad},
		{api.Msg{Status: 200, Minor: math.MaxInt64}, api.ErrBad},
		{api.Msg{Status: 99, Minor: 1}, api.ErrBad},
		{api.Msg{Status: 600, Minor: 1}, api.ErrBad},
		{api.Msg{Status: -200, Minor: 1}, api.ErrBad},
		{api.Msg{Status: math.MinInt64, Minor: 1}, api.ErrBad},
		{api.Msg{Status: 200 + 1<<32, Minor: 1}, api.ErrBad},
		{api.Msg{Status: 200, Minor: 1, Reason: "a\r\nb: c"}, api.ErrBad},
		{api.Msg{Status: 200, Minor: 1, Reason: "\x7f"}, api.ErrBad},

		{ask("GET", "", of("", "1")...), api.ErrBad}, // fields, also one after others
		{ask("GET", "", of("A", "1", "B ", "2")...), api.ErrBad},
		{ask("GET", "", of("A", "1", "B", "2\r\nC: 3", "D", "4")...), api.ErrBad},
		{answer(200, "", of("A", " 1")...), api.ErrBad},
		{answer(200, "", of("A", "1\t")...), api.ErrBad},
		{answer(200, "", of("A", "\x00")...), api.ErrBad},
		{with(ask("GET", ""), of("a:", "1")...), api.ErrBad}, // trailers
		{with(answer(200, ""), of("T", "1", "T", "\n")...), api.ErrBad},
		{with(answer(204, ""), of("T", " ")...), api.ErrBad}, // also where they are left out

		{ask("POST", "abc", of("Content-Length", "3")...), api.ErrThere},
		{ask("GET", "", of("A", "1", "content-length", "")...), api.ErrThere},
		{ask("GET", "", of("CONTENT-LENGTH", "x, y", "A", "1")...), api.ErrThere},
		{answer(200, "", of("Transfer-Encoding", "chunked")...), api.ErrThere},
		{answer(304, "", of("A", "1", "transfer-ENCODING", "", "A", "2")...), api.ErrThere},
		{answer(204, "", of("Content-Length", "0", "Transfer-Encoding", "gzip")...), api.ErrThere},
		{with(answer(200, "", of("Content-Length", "0")...), of("T", "1")...), api.ErrThere},

		{ask("G T", "", of("Content-Length", "3")...), api.ErrBad}, // what is not valid comes first
		{api.Msg{Fields: of("Content-Length", "3")}, api.ErrBad},
		{api.Msg{Method: "GET", Target: "/", Status: 200, Fields: of("Content-Length", "3")}, api.ErrBad},
		{ask("GET", "", of("Content-Length", "3", "A", "\n")...), api.ErrBad},
		{ask("GET", "", of("Content-Length", "3\n")...), api.ErrBad},
		{answer(200, "", of("Transfer-Encoding", " chunked")...), api.ErrBad},
		{with(answer(200, "", of("Transfer-Encoding", "chunked")...), of("T", "\n")...), api.ErrBad},
	}
}

// P8.1, P8.2: all functions return the error of Check first.
func TestCheck(t *testing.T) {
	for _, x := range messages() {
		if e := emit.Check(x.m); e != x.e {
			t.Errorf("Check(%+v) = %d, not %d", x.m, e, x.e)
		}
		if x.e == api.OK {
			continue
		}
		want := result{"", x.e}
		for _, method := range []string{"GET", "HEAD", "POST", "CONNECT", ""} {
			if got := told(x.m, method); got != want {
				t.Errorf("Response(%+v, %q) = %+v", x.m, method, got)
			}
		}
		if got := asked(x.m); got != want {
			t.Errorf("Request(%+v) = %+v", x.m, got)
		}
		for _, size := range []int{0, 2} {
			if got := cut(x.m, size); got != want {
				t.Errorf("Chunked(%+v, %d) = %+v", x.m, size, got)
			}
		}
	}
}

// P8.1: each byte at each place where a message has text.
func TestCheckOfBytes(t *testing.T) {
	visible := func(c byte) bool { return c > 32 && c < 127 }
	inside := func(c byte) bool { return token.Char(c) }
	atEnd := func(c byte) bool { return token.Char(c) && c != ' ' && c != '\t' }
	for _, place := range []struct {
		put    func(s string) api.Msg
		end    func(c byte) bool // what may stand at an end of the text
		inside func(c byte) bool // what may stand between others
	}{
		{func(s string) api.Msg { return api.Msg{Method: s, Target: "/", Minor: 1} }, token.Tchar, token.Tchar},
		{func(s string) api.Msg { return api.Msg{Method: "GET", Target: s, Minor: 1} }, visible, visible},
		{func(s string) api.Msg { return api.Msg{Status: 200, Reason: s, Minor: 1} }, inside, inside},
		{func(s string) api.Msg { return ask("GET", "", of("A", "1", s, "2")...) }, token.Tchar, token.Tchar},
		{func(s string) api.Msg { return answer(200, "", of("A", s, "B", "2")...) }, atEnd, inside},
		{func(s string) api.Msg { return with(ask("GET", ""), of("A", "1", s, "2")...) }, token.Tchar, token.Tchar},
		{func(s string) api.Msg { return with(answer(200, ""), of("A", s, "B", "2")...) }, atEnd, inside},
	} {
		for i := range 256 {
			c := byte(i)
			s := string([]byte{c})
			for text, fits := range map[string]bool{s: place.end(c), s + "x": place.end(c), "x" + s: place.end(c), "x" + s + "x": place.inside(c)} {
				want := api.OK
				if !fits {
					want = api.ErrBad
				}
				if e := emit.Check(place.put(text)); e != want {
					t.Errorf("Check(%+v) = %d", place.put(text), e)
				}
			}
		}
	}
}

// P8.1: bytes of requests.
func TestRequest(t *testing.T) {
	for _, x := range []struct {
		m api.Msg
		s string
	}{
		{ask("GET", ""), lines("GET /p?q HTTP/1.1", "", "")},
		{old(ask("GET", "")), lines("GET /p?q HTTP/1.0", "", "")},
		{ask("GET", "", of("Host", "a", "x", "", "hOST", "b")...), lines("GET /p?q HTTP/1.1", "Host: a", "x: ", "hOST: b", "", "")},
		{ask("GET", "abc", of("Host", "a")...), lines("GET /p?q HTTP/1.1", "Host: a", "Content-Length: 3", "", "abc")},
		{ask("POST", ""), lines("POST /p?q HTTP/1.1", "Content-Length: 0", "", "")},
		{ask("PUT", "", of("Host", "a")...), lines("PUT /p?q HTTP/1.1", "Host: a", "Content-Length: 0", "", "")},
		{old(ask("PATCH", "")), lines("PATCH /p?q HTTP/1.0", "Content-Length: 0", "", "")},
		{old(ask("PATCH", "\r\n")), lines("PATCH /p?q HTTP/1.0", "Content-Length: 2", "", "\r\n")},
		{ask("post", ""), lines("post /p?q HTTP/1.1", "", "")}, // other methods
		{ask("Put", ""), lines("Put /p?q HTTP/1.1", "", "")},
		{ask("PATCHES", ""), lines("PATCHES /p?q HTTP/1.1", "", "")},
		{ask("POS", ""), lines("POS /p?q HTTP/1.1", "", "")},
		{ask("HEAD", ""), lines("HEAD /p?q HTTP/1.1", "", "")},
		{ask("HEAD", "a"), lines("HEAD /p?q HTTP/1.1", "Content-Length: 1", "", "a")}, // that concerns only its response
		{ask("DELETE", ""), lines("DELETE /p?q HTTP/1.1", "", "")},
		{api.Msg{Method: "OPTIONS", Target: "*", Minor: 1, Fields: of("Host", "")}, lines("OPTIONS * HTTP/1.1", "Host: ", "", "")},
		{api.Msg{Method: "CONNECT", Target: "a:1", Minor: 1}, lines("CONNECT a:1 HTTP/1.1", "", "")},
		{with(ask("POST", "a"), of("T", "1")...), lines("POST /p?q HTTP/1.1", "Content-Length: 1", "", "a")}, // without trailers
		{with(ask("GET", "", of("Trailer", "T")...), of("T", "1")...), lines("GET /p?q HTTP/1.1", "Trailer: T", "", "")},
		{ask("GET", "\x00\xff\r\n\r\nGET / HTTP/1.1"), lines("GET /p?q HTTP/1.1", "Content-Length: 20", "", "\x00\xff", "", "GET / HTTP/1.1")},
	} {
		if got := asked(x.m); got != (result{x.s, api.OK}) {
			t.Errorf("Request(%+v) = %+v", x.m, got)
		}
	}
	for _, m := range []api.Msg{answer(200, ""), answer(204, ""), old(answer(100, "")), emit.Plain(400), answer(200, "abc", of("Host", "a")...)} {
		if got := asked(m); got != (result{"", api.ErrBad}) {
			t.Errorf("Request(%+v) = %+v", m, got)
		}
	}
	if got := asked(answer(200, "", of("Content-Length", "0")...)); got != (result{"", api.ErrThere}) {
		t.Errorf("%+v", got) // first the error of Check
	}
}

// P8.2: bytes of responses.
func TestResponse(t *testing.T) {
	for _, x := range []struct {
		m      api.Msg
		method string
		s      string
	}{
		{answer(200, ""), "GET", lines("HTTP/1.1 200 R s", "Content-Length: 0", "", "")},
		{answer(200, "abc"), "GET", lines("HTTP/1.1 200 R s", "Content-Length: 3", "", "abc")},
		{old(answer(404, "abc", of("a", "1", "A", "")...)), "POST", lines("HTTP/1.0 404 R s", "a: 1", "A: ", "Content-Length: 3", "", "abc")},
		{api.Msg{Status: 599, Minor: 1, Body: "a"}, "DELETE", lines("HTTP/1.1 599 ", "Content-Length: 1", "", "a")},
		{answer(200, "abc", of("a", "1")...), "HEAD", lines("HTTP/1.1 200 R s", "a: 1", "Content-Length: 3", "", "")},
		{answer(200, ""), "HEAD", lines("HTTP/1.1 200 R s", "", "")},
		{old(answer(500, "0123456789")), "HEAD", lines("HTTP/1.0 500 R s", "Content-Length: 10", "", "")},
		{answer(200, "abc"), "head", lines("HTTP/1.1 200 R s", "Content-Length: 3", "", "abc")}, // another method
		{answer(200, "abc"), "HEADS", lines("HTTP/1.1 200 R s", "Content-Length: 3", "", "abc")},
		{answer(200, "abc"), "", lines("HTTP/1.1 200 R s", "Content-Length: 3", "", "abc")},
		{answer(200, "abc"), "\r\n", lines("HTTP/1.1 200 R s", "Content-Length: 3", "", "abc")},
		{answer(204, ""), "GET", lines("HTTP/1.1 204 R s", "", "")},
		{answer(204, "abc", of("a", "1")...), "GET", lines("HTTP/1.1 204 R s", "a: 1", "", "")},
		{answer(304, "abc"), "GET", lines("HTTP/1.1 304 R s", "", "")},
		{answer(304, "abc"), "HEAD", lines("HTTP/1.1 304 R s", "", "")}, // no length either
		{old(answer(204, "abc")), "HEAD", lines("HTTP/1.0 204 R s", "", "")},
		{answer(100, "abc"), "PUT", lines("HTTP/1.1 100 R s", "", "")},
		{answer(199, ""), "HEAD", lines("HTTP/1.1 199 R s", "", "")},
		{answer(205, ""), "GET", lines("HTTP/1.1 205 R s", "Content-Length: 0", "", "")},
		{answer(200, "abc"), "CONNECT", lines("HTTP/1.1 200 R s", "Content-Length: 3", "", "abc")}, // as the words say
		{answer(299, ""), "CONNECT", lines("HTTP/1.1 299 R s", "Content-Length: 0", "", "")},
		{answer(400, "abc"), "CONNECT", lines("HTTP/1.1 400 R s", "Content-Length: 3", "", "abc")},
		{with(answer(200, "a"), of("T", "1")...), "GET", lines("HTTP/1.1 200 R s", "Content-Length: 1", "", "a")}, // without trailers
		{with(answer(200, "a"), of("T", "1")...), "HEAD", lines("HTTP/1.1 200 R s", "Content-Length: 1", "", "")},
		{with(answer(204, ""), of("T", "1")...), "GET", lines("HTTP/1.1 204 R s", "", "")},
		{answer(200, "\r\n0\r\n\r\n"), "GET", lines("HTTP/1.1 200 R s", "Content-Length: 7", "", "", "0", "", "")},
	} {
		if got := told(x.m, x.method); got != (result{x.s, api.OK}) {
			t.Errorf("Response(%+v, %q) = %+v", x.m, x.method, got)
		}
	}
	for _, method := range []string{"GET", "HEAD", ""} {
		for _, m := range []api.Msg{ask("GET", ""), ask("HEAD", "abc"), old(ask("POST", "", of("Host", "a")...))} {
			if got := told(m, method); got != (result{"", api.ErrBad}) {
				t.Errorf("Response(%+v, %q) = %+v", m, method, got)
			}
		}
		if got := told(ask("GET", "", of("Transfer-Encoding", "x")...), method); got != (result{"", api.ErrThere}) {
			t.Errorf("%q: %+v", method, got) // first the error of Check
		}
	}
}

// P8.2: which statuses have content, in each function.
func TestStatuses(t *testing.T) {
	for status := -10; status < 1010; status++ {
		m := api.Msg{Status: status, Minor: 1, Body: "ab"}
		bare := status >= 100 && status <= 199 || status == 204 || status == 304
		var want, head, chunks result
		switch line := "HTTP/1.1 " + decimal(status) + " "; {
		case status < 100 || status > 599:
			want.e, head.e, chunks.e = api.ErrBad, api.ErrBad, api.ErrBad
		case bare:
			want.s, head.s, chunks.e = lines(line, "", ""), lines(line, "", ""), api.ErrBad
		default:
			want.s = lines(line, "Content-Length: 2", "", "ab")
			head.s = lines(line, "Content-Length: 2", "", "")
			chunks.s = lines(line, "Transfer-Encoding: chunked", "", "2", "ab", "0", "", "")
		}
		if got := told(m, "GET"); got != want {
			t.Errorf("Response(%d) = %+v", status, got)
		}
		if got := told(m, "HEAD"); got != head {
			t.Errorf("Response(%d) to HEAD = %+v", status, got)
		}
		if got := cut(m, 0); got != chunks {
			t.Errorf("Chunked(%d) = %+v", status, got)
		}
	}
}

// decimal is the decimal text of n.
func decimal(n int) string {
	switch {
	case n < 0:
		return "-" + decimal(-n)
	case n < 10:
		return string(rune('0' + n))
	}
	return decimal(n/10) + decimal(n%10)
}

// P8.2: messages in chunks.
func TestChunked(t *testing.T) {
	const coded = "Transfer-Encoding: chunked"
	for _, x := range []struct {
		m    api.Msg
		size int
		s    string
	}{
		{ask("GET", ""), 2, lines("GET /p?q HTTP/1.1", coded, "", "0", "", "")},
		{ask("POST", "abcde", of("Host", "a", "host", "")...), 2, lines("POST /p?q HTTP/1.1", "Host: a", "host: ", coded, "", "2", "ab", "2", "cd", "1", "e", "0", "", "")},
		{with(ask("POST", "abcde"), of("T", "1", "t", "")...), 4, lines("POST /p?q HTTP/1.1", coded, "", "4", "abcd", "1", "e", "0", "T: 1", "t: ", "", "")},
		{with(answer(200, "", of("Trailer", "T")...), of("T", "1")...), 4, lines("HTTP/1.1 200 R s", "Trailer: T", coded, "", "0", "T: 1", "", "")},
		{answer(200, "abc"), 3, lines("HTTP/1.1 200 R s", coded, "", "3", "abc", "0", "", "")},
		{answer(200, "abc"), 4, lines("HTTP/1.1 200 R s", coded, "", "3", "abc", "0", "", "")},
		{answer(200, "abc"), 1, lines("HTTP/1.1 200 R s", coded, "", "1", "a", "1", "b", "1", "c", "0", "", "")},
		{answer(200, "abc"), 0, lines("HTTP/1.1 200 R s", coded, "", "3", "abc", "0", "", "")},
		{answer(200, "abc"), -1, lines("HTTP/1.1 200 R s", coded, "", "3", "abc", "0", "", "")},
		{answer(200, "abc"), math.MinInt64, lines("HTTP/1.1 200 R s", coded, "", "3", "abc", "0", "", "")},
		{answer(200, "abc"), math.MaxInt64, lines("HTTP/1.1 200 R s", coded, "", "3", "abc", "0", "", "")},
		{answer(500, "0123456789abcdef"), 10, lines("HTTP/1.1 500 R s", coded, "", "a", "0123456789", "6", "abcdef", "0", "", "")}, // hexadecimal
		{answer(500, "\r\n0\r\n\r\n"), 16, lines("HTTP/1.1 500 R s", coded, "", "7", "\r\n0\r\n\r\n", "0", "", "")},
		{with(answer(205, ""), of("Content-Length", "5", "transfer-encoding", "x")...), 1, lines("HTTP/1.1 205 R s", coded, "", "0", "Content-Length: 5", "transfer-encoding: x", "", "")},
		{api.Msg{Method: "OPTIONS", Target: "*", Minor: 1}, 1, lines("OPTIONS * HTTP/1.1", coded, "", "0", "", "")},
	} {
		if got := cut(x.m, x.size); got != (result{x.s, api.OK}) {
			t.Errorf("Chunked(%+v, %d) = %+v", x.m, x.size, got)
		}
	}
	for _, m := range []api.Msg{old(ask("GET", "")), old(ask("POST", "abc")), old(answer(200, "")), old(answer(204, "")), answer(204, ""), answer(304, "abc"), answer(100, ""), with(answer(199, ""), of("T", "1")...)} {
		for _, size := range []int{-1, 0, 1, 100} {
			if got := cut(m, size); got != (result{"", api.ErrBad}) {
				t.Errorf("Chunked(%+v, %d) = %+v", m, size, got)
			}
		}
	}
	for _, m := range []api.Msg{ask("GET", ""), answer(200, ""), answer(204, "")} { // first the error of Check
		m.Fields = of("Content-Length", "0")
		for _, m := range []api.Msg{m, old(m)} {
			if got := cut(m, 1); got != (result{"", api.ErrThere}) {
				t.Errorf("Chunked(%+v) = %+v", m, got)
			}
		}
	}
}

// reasons are those of P8.3.
func reasons() map[int]string {
	return map[int]string{
		200: "OK",
		304: "Not Modified",
		400: "Bad Request",
		413: "Content Too Large",
		431: "Request Header Fields Too Large",
		500: "Internal Server Error",
		501: "Not Implemented",
		502: "Bad Gateway",
		503: "Service Unavailable",
		504: "Gateway Timeout",
		505: "HTTP Version Not Supported",
	}
}

// P8.3: the reason of each status, and the response that says it.
func TestPlain(t *testing.T) {
	check := func(status int, text string) {
		reason, there := reasons()[status]
		if !there {
			reason = "Other"
		}
		if got := emit.Reason(status); got != reason {
			t.Errorf("Reason(%d) = %q", status, got)
		}
		want := api.Msg{Status: status, Reason: reason, Minor: 1, Fields: of("Content-Type", "text/plain"), Body: text + " " + reason + "\n"}
		if got := emit.Plain(status); !equal(got, want) {
			t.Errorf("Plain(%d) = %+v", status, got)
		}
	}
	for status := -1000; status < 2000; status++ {
		check(status, decimal(status))
	}
	for status := range reasons() { // numbers that are the same when they are cut
		check(status+1<<8, decimal(status+1<<8))
		check(status+1<<16, decimal(status+1<<16))
		check(status+1<<32, decimal(status+1<<32))
	}
	check(math.MaxInt64, "9223372036854775807")
	check(math.MinInt64, "-9223372036854775808")
}

// P8.3: a plain response can be sent if its status can.
func TestPlainIsSent(t *testing.T) {
	want := lines("HTTP/1.1 400 Bad Request", "Content-Type: text/plain", "Content-Length: 16", "", "400 Bad Request\n")
	if got := told(emit.Plain(400), "GET"); got != (result{want, api.OK}) {
		t.Errorf("%+v", got)
	}
	for status := range 1000 {
		want := api.OK
		if status < 100 || status > 599 {
			want = api.ErrBad
		}
		if e := emit.Check(emit.Plain(status)); e != want {
			t.Errorf("%d: %d", status, e)
		}
	}
}

// equal reports whether a and b are equal in all parts, the case of names included.
func equal(a, b api.Msg) bool {
	return message.Same(a, b) && slices.Equal(a.Fields, b.Fields) && slices.Equal(a.Trailers, b.Trailers)
}
