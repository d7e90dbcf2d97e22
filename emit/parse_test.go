package emit_test

import (
	"slices"
	"strings"
	"testing"

	"halfwayhouse/api"
	"halfwayhouse/chunk"
	"halfwayhouse/emit"
	"halfwayhouse/message"
)

// P8.4: what is formatted is parsed as the same message.

// wide are limits that nothing here exceeds.
func wide() api.Limits { return api.Limits{Line: 1 << 10, Head: 1 << 16, Count: 100, Body: 1 << 16} }

// added returns m as it has to be parsed: with that content and those trailers, and with a further field unless its name is empty.
func added(m api.Msg, name, value, body string, trailers []api.Field) api.Msg {
	if name != "" {
		m.Fields = append(slices.Clone(m.Fields), api.Field{Name: name, Value: value})
	}
	m.Body, m.Trailers = body, trailers
	return m
}

// reads checks that p parses s twice, one right after the other, as m.
func reads(t *testing.T, p *message.Parser, s string, m api.Msg) {
	t.Helper()
	for range 2 {
		n, status := p.Feed(s + s)
		got, ok := p.Next()
		if n != len(s) || status != 0 || !ok || !equal(got, m) {
			t.Fatalf("%q: %d bytes, status %d, %t, %+v, not %+v", s, n, status, ok, got, m)
		}
	}
	if p.Left() != 0 || p.End() != 0 {
		t.Fatalf("%q: %d bytes, status %d", s, p.Left(), p.Status())
	}
}

// answers returns a parser of the responses to two requests with that method.
func answers(method string) *message.Parser {
	p := message.Responses(wide())
	p.Expect(method)
	p.Expect(method)
	return p
}

// sendable calls f with messages that can be sent: requests with one Host, so that they can be parsed in each version, and responses.
func sendable(f func(m api.Msg)) {
	lists := [][]api.Field{nil, of("A", "1", "a", "", "TE", "\x80 \t\"x"), of("Connection", "close, Content-Length", "Via", "1.0 p")}
	trailers := [][]api.Field{nil, of("T", "1", "t", ""), of("Content-Length", "7", "Transfer-Encoding", "gzip", "Host", "b", "host", "c")}
	for _, body := range []string{"", "a", "abcdefghijklmnopqrstuvwxyz", "\r\n", "0\r\n\r\n", "\x00\xff", "GET / HTTP/1.1\r\n\r\n", "HTTP/1.1 200 OK\r\n\r\n"} {
		for _, l := range lists {
			for _, after := range trailers {
				for minor := range 2 {
					for _, method := range []string{"GET", "HEAD", "POST", "PUT", "PATCH", "DELETE", "OPTIONS", "CONNECT", "get", "!"} {
						f(api.Msg{Method: method, Target: "/#?\x7e", Minor: minor, Fields: append(of("Host", "a:1"), l...), Body: body, Trailers: after})
					}
					for _, status := range []int{100, 101, 199, 200, 204, 205, 299, 304, 404, 502, 599} {
						f(api.Msg{Status: status, Reason: " r\t\xff ", Minor: minor, Fields: l, Body: body, Trailers: after})
					}
				}
			}
		}
	}
}

// Requests and responses with their length.
func TestParsedWithLength(t *testing.T) {
	sendable(func(m api.Msg) {
		length := decimal(len(m.Body))
		if m.Method != "" {
			name := ""
			if m.Body != "" || slices.Contains([]string{"POST", "PUT", "PATCH"}, m.Method) {
				name = "Content-Length"
			}
			reads(t, message.Requests(wide()), asked(m).s, added(m, name, length, m.Body, nil))
			return
		}
		bare := slowlyBare(m.Status)
		for _, method := range []string{"GET", "POST", "HEAD", "CONNECT"} {
			s := told(m, method).s
			switch {
			case bare:
				reads(t, answers(method), s, added(m, "", "", "", nil))
			case method == "HEAD" && m.Body == "":
				reads(t, answers(method), s, added(m, "", "", "", nil))
			case method == "HEAD":
				reads(t, answers(method), s, added(m, "Content-Length", length, "", nil))
			case method == "CONNECT" && m.Status <= 299:
				// Its content is said to be sent, but a parser takes it for what comes after the response.
			default:
				reads(t, answers(method), s, added(m, "Content-Length", length, m.Body, nil))
			}
		}
	})
}

// Requests and responses in chunks.
func TestParsedInChunks(t *testing.T) {
	sendable(func(m api.Msg) {
		want := added(m, "Transfer-Encoding", "chunked", m.Body, m.Trailers)
		for _, size := range []int{0, 1, 2, 10, 26, 27} {
			s := cut(m, size)
			switch {
			case m.Minor == 0 || slowlyBare(m.Status):
				if s != (result{"", api.ErrBad}) {
					t.Fatalf("%+v: %+v", m, s)
				}
			case m.Method != "":
				reads(t, message.Requests(wide()), s.s, want)
			default:
				reads(t, answers("GET"), s.s, want)
			}
		}
	})
}

// A message that was parsed and has lost what was added is formatted as the same bytes again.
func TestFormattedAgain(t *testing.T) {
	const asks = "PUT /a HTTP/1.1\r\nHost: a\r\nA:  1\t\r\nContent-Length: 3\r\n\r\nabc"
	l, status := message.All(wide(), asks)
	if len(l) != 1 || status != 0 {
		t.Fatalf("%+v, %d", l, status)
	}
	m := l[0]
	if e := emit.Check(m); e != api.ErrThere {
		t.Errorf("%d", e)
	}
	m.Fields = m.Fields[:2]
	if got := asked(m); got != (result{"PUT /a HTTP/1.1\r\nHost: a\r\nA: 1\r\nContent-Length: 3\r\n\r\nabc", api.OK}) {
		t.Errorf("%+v", got)
	}
}

// The chunks are those of package chunk.
func TestChunksAreEncoded(t *testing.T) {
	m := with(answer(200, strings.Repeat("0123456789", 1000)), of("T", "1")...)
	for _, size := range []int{-5, 0, 1, 7, 4095, 4096, 9999, 10000, 10001} {
		chunks, _ := chunk.Encode(m.Body, size, m.Trailers)
		if got := cut(m, size); got != (result{"HTTP/1.1 200 R s\r\nTransfer-Encoding: chunked\r\n\r\n" + chunks, api.OK}) {
			t.Errorf("%d: %d, %d bytes", size, got.e, len(got.s))
		}
	}
}

// P8.3, P8.4: each plain response is parsed as itself.
func TestPlainIsParsed(t *testing.T) {
	for status := 100; status < 600; status++ {
		m := emit.Plain(status)
		if slowlyBare(status) {
			reads(t, answers("GET"), told(m, "GET").s, added(m, "", "", "", nil))
			continue
		}
		reads(t, answers("GET"), told(m, "GET").s, added(m, "Content-Length", decimal(len(m.Body)), m.Body, nil))
		reads(t, answers("HEAD"), told(m, "HEAD").s, added(m, "Content-Length", decimal(len(m.Body)), "", nil))
		reads(t, answers("GET"), cut(m, 8).s, added(m, "Transfer-Encoding", "chunked", m.Body, nil))
	}
}
