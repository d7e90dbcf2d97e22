package message_test

import (
	"strconv"
	"strings"
	"testing"

	"halfwayhouse/api"
	"halfwayhouse/chunk"
	"halfwayhouse/field"
	"halfwayhouse/message"
	"halfwayhouse/start"
)

// The slow form of P6.1: the flaw of a text is that of its shortest beginning that has one, and each beginning is looked at as a whole.

// A kind is what is parsed: requests if method is empty, or responses to requests with that method.
type kind struct {
	limits api.Limits
	method string
}

// made returns a parser of that kind, for one response.
func (k kind) made() *message.Parser {
	if k.method == "" {
		return message.Requests(k.limits)
	}
	return responses(k.limits, k.method)()
}

// An ending is what a parser has to tell when the connection has ended: a status, and the message that waits then.
type ending struct {
	status int
	waits  bool
	msg    api.Msg
}

// slowly returns what a parser of that kind has to tell after it was fed s, and at the end of the connection.
func slowly(k kind, s string) (w want, end ending) {
	for n := range len(s) + 1 {
		w, end = k.beginning(s[:n])
		if w.status != 0 || w.waits {
			break
		}
	}
	return w, end
}

// beginning looks at s, of which no shorter beginning has a flaw or is a message.
func (k kind) beginning(s string) (w want, end ending) {
	done, open := false, false
	m, rest, status, headEnded := k.head(s)
	if status == 0 && headEnded {
		open = k.open(m)
		done, status = k.content(&m, rest)
	}
	w = want{n: len(s), left: len(s)}
	switch {
	case status != 0:
		w.status, end.status = status, status
	case done:
		w = want{n: len(s), waits: true, msg: m}
		end = ending{waits: true, msg: m}
	case open:
		end = ending{waits: true, msg: m}
	case s != "":
		end.status = 400
	}
	return w, end
}

// head parses the head that s begins with.
func (k kind) head(s string) (m api.Msg, rest string, status int, ended bool) {
	rest = s
	for number := 0; ; number++ {
		line, lineEnded, status := k.cutLine(rest)
		used := len(s)
		if lineEnded {
			rest = rest[len(line)+2:]
			used -= len(rest)
		}
		switch {
		case status != 0:
			return api.Msg{}, "", status, false
		case used > k.limits.Head:
			return api.Msg{}, "", 431, false
		case !lineEnded:
			return api.Msg{}, "", 0, false
		case number == 0 && line == "" && k.method == "":
		case m.Method == "" && m.Status == 0:
			if status := k.first(&m, line); status != 0 {
				return api.Msg{}, "", status, false
			}
		case line == "":
			return m, rest, k.hosts(m), true
		default:
			f, e := field.Line(line)
			if e != api.OK {
				return api.Msg{}, "", 400, false
			}
			m.Fields = append(m.Fields, f)
			if len(m.Fields) > k.limits.Count {
				return api.Msg{}, "", 431, false
			}
		}
	}
}

// cutLine returns the line that s begins with, without its end, whether it has ended, and its flaw as a line.
func (k kind) cutLine(s string) (line string, ended bool, status int) {
	line, _, ended = strings.Cut(s, "\r\n")
	if ended {
		line += "\r\n"
	} else {
		line = s
	}
	if len(line) > k.limits.Line || len(line) == k.limits.Line && !ended && line != "" {
		return "", false, 431
	}
	text := strings.TrimSuffix(line, "\n")
	if !ended {
		text = line
	}
	if strings.ContainsAny(strings.TrimSuffix(text, "\r"), "\r\n") {
		return "", false, 400
	}
	return strings.TrimSuffix(line, "\r\n"), ended, 0
}

// first parses the first line of m.
func (k kind) first(m *api.Msg, line string) (status int) {
	if k.method == "" {
		m.Method, m.Target, m.Minor, status = start.Request(line)
		return status
	}
	var e api.Errno
	if m.Minor, m.Status, m.Reason, e = start.Status(line); e != api.OK {
		return 400
	}
	return 0
}

// hosts looks at the fields Host of m.
func (k kind) hosts(m api.Msg) (status int) {
	if k.method != "" {
		return 0
	}
	n := 0
	for _, f := range m.Fields {
		if strings.ToLower(f.Name) == "host" {
			n++
			if f.Value != "" && !start.Host(f.Value) {
				return 400
			}
		}
	}
	if n > 1 || n == 0 && m.Minor == 1 {
		return 400
	}
	return 0
}

// open reports whether the content of m extends to the end of the connection.
func (k kind) open(m api.Msg) bool {
	_, coded := field.Get(m.Fields, "Transfer-Encoding")
	_, sized := field.Get(m.Fields, "Content-Length")
	return k.method != "" && !k.bare(m) && !coded && !sized
}

// bare reports whether m has no content whatever its fields are.
func (k kind) bare(m api.Msg) bool {
	return k.method != "" && (k.method == "HEAD" || m.Status/100 == 1 || m.Status == 204 || m.Status == 304 || k.method == "CONNECT" && m.Status/100 == 2)
}

// content parses the content of m, which s begins with, and says whether it is complete.
func (k kind) content(m *api.Msg, s string) (done bool, status int) {
	_, coded := field.Get(m.Fields, "Transfer-Encoding")
	_, sized := field.Get(m.Fields, "Content-Length")
	switch {
	case k.bare(*m):
		return true, 0
	case coded && (sized || m.Minor == 0):
		return false, 400
	case coded && strings.ToLower(strings.Join(field.List(m.Fields, "Transfer-Encoding"), ",")) != "chunked":
		return false, 501
	case coded:
		d := chunk.New(k.limits)
		_, status := d.Feed(s)
		m.Body, m.Trailers = d.Body(), d.Trailers()
		return d.Done(), status
	case sized:
		return k.counted(m, s)
	case k.method == "":
		return true, 0
	case len(s) > k.limits.Body:
		return false, 413
	}
	m.Body = s
	return false, 0
}

// counted parses content that has a length.
func (k kind) counted(m *api.Msg, s string) (done bool, status int) {
	const none = 1 << 60
	n := uint64(none)
	for _, part := range field.List(m.Fields, "Content-Length") {
		number, err := strconv.ParseUint(part, 10, 64)
		if err != nil || number >= 1<<53 || n != none && n != number {
			return false, 400
		}
		n = number
	}
	switch {
	case n == none:
		return false, 400
	case n > uint64(k.limits.Body):
		return false, 413
	}
	m.Body = s
	return uint64(len(s)) == n, 0
}

// compare feeds s to a parser, in one piece and cut before each of the places, and compares what it tells with the slow form.
func compare(t *testing.T, k kind, s string, cuts ...int) {
	t.Helper()
	w, end := slowly(k, s)
	if v := told(k.made(), s, cuts...); !same(v, w) {
		t.Errorf("%+v, %q cut at %v: %+v, not %+v", k, s, cuts, v, w)
	}
	for _, cut := range append(cuts, len(s)) {
		if v := told(k.made(), s, cut); !same(v, w) {
			t.Errorf("%+v, %q cut at %d: %+v, not %+v", k, s, cut, v, w)
		}
	}
	p := k.made()
	p.Feed(s)
	status := p.End()
	m, ok := p.Next()
	if status != end.status || p.Status() != status || ok != end.waits || !equal(m, end.msg) {
		t.Errorf("%+v, %q: at the end %d, %d, %t, %+v, not %+v", k, s, status, p.Status(), ok, m, end)
	}
}

// someLimits are limits of which each is near what the texts here have.
func someLimits() []api.Limits {
	l := []api.Limits{wide(), {}, {Line: 100, Head: 100, Count: 1, Body: 2}, {Line: 18, Head: 60, Count: 2, Body: 3}, {Line: 17, Head: 100, Count: 3, Body: 1}, {Line: 30, Head: 44, Count: 3, Body: 3}}
	for head := 25; head < 30; head++ {
		l = append(l, api.Limits{Line: 19, Head: head, Count: 1, Body: 3})
	}
	return l
}

// texts yields every text of at most that many of the parts.
func texts(most int, parts []string, yield func(s string)) {
	yield("")
	if most == 0 {
		return
	}
	for _, part := range parts {
		texts(most-1, parts, func(s string) { yield(part + s) })
	}
}

// P6.1: all short texts, after beginnings that lead into each state.
func TestFeedSlowly(t *testing.T) {
	const line, host, answer = "GET / HTTP/1.1\r\n", "GET / HTTP/1.1\r\nHost:a\r\n", "HTTP/1.1 200 x\r\n"
	for begin, method := range map[string]string{
		"": "", "\r\n": "", "GET / HTTP/1.1": "", "GET / HTTP/2.1": "", line: "", host: "", host + "Content-Length:2\r\n\r\n": "", host + "Content-Length:2": "", host + "Transfer-Encoding:chunked\r\n\r\n": "",
		"HTTP/1.1 200 x": "GET", answer: "GET", answer + "\r\n": "GET", answer + "Content-Length:2\r\n": "HEAD", answer + "Content-Length:1\r\n": "CONNECT", "HTTP/1.1 404 x\r\nContent-Length:1\r\n": "CONNECT",
	} {
		texts(4, []string{"\r", "\n", "\r\n", "2", "a", ":", " ", "\x00"}, func(s string) {
			s = begin + s
			for _, l := range someLimits()[:4] {
				compare(t, kind{l, method}, s)
			}
		})
	}
}

// P6.1: heads of all short lists of fields.
func TestFieldsSlowly(t *testing.T) {
	lines := []string{"Host: a\r\n", "hOST:\r\n", "Host: a b\r\n", "Content-Length: 2\r\n", "content-length: 3\r\n", "Content-Length: 02, 2\r\n", "Content-Length: x\r\n", "Content-Length: 4\r\n", "Transfer-Encoding: CHUNKED\r\n", "Transfer-Encoding: x\r\n", "X: y\r\n"}
	texts(3, lines, func(s string) {
		for first, method := range map[string]string{"GET / HTTP/1.1\r\n": "", "GET / HTTP/1.0\r\n": "", "HTTP/1.1 200 x\r\n": "GET", "HTTP/1.0 200 x\r\n": "CONNECT", "HTTP/1.1 404 x\r\n": "CONNECT", "HTTP/1.1 304 x\r\n": "GET", "HTTP/1.1 101 x\r\n": "GET", "HTTP/1.1 204 x\r\n": "POST", "HTTP/1.1 205 x\r\n": "HEAD"} {
			for _, l := range []api.Limits{wide(), {Line: 100, Head: 70, Count: 2, Body: 3}, {Line: 22, Head: 100, Count: 3, Body: 2}} {
				compare(t, kind{l, method}, first+s+"\r\n2\r\nab\r\n0\r\nT:1\r\n\r\n", len(first))
			}
		}
	})
}

// P6.1, P6.3: messages with up to two places at which bytes are put in, left out or replaced, cut at every place.
func TestEditedMessages(t *testing.T) {
	parts := []string{"", "\r", "\n", "\r\n", "0", "a", ":", " ", "\x00", "\xff", "Host:a\r\n"}
	for s, method := range map[string]string{
		"\r\nA / HTTP/1.1\r\nHost:a\r\n\r\n":                                                 "",
		"A / HTTP/1.0\r\nContent-Length:2\r\n\r\nxy":                                         "",
		"A / HTTP/1.1\r\nHost:\r\nTransfer-Encoding:chunked\r\n\r\n1\r\nx\r\n0\r\n\r\n":      "",
		"HTTP/1.1 200 x\r\nContent-Length:2\r\n\r\nxy":                                       "GET",
		"HTTP/1.1 200 x\r\nA:b\r\n\r\nxy":                                                    "POST",
		"HTTP/1.1 204 x\r\nTransfer-Encoding:chunked\r\nA: b\r\n\r\n1\r\nx\r\n0\r\nT:\r\n\r": "HEAD",
	} {
		edit(s, parts, func(once string) {
			for _, l := range someLimits() {
				compare(t, kind{l, method}, once, everywhere(once)...)
			}
		})
		edit(s, parts[:3], func(once string) {
			edit(once, parts[:1], func(twice string) { compare(t, kind{someLimits()[0], method}, twice, len(twice)/2) })
		})
	}
}

// edit yields s with each of the parts put in at each place, and in place of each byte.
func edit(s string, parts []string, yield func(s string)) {
	for i := range len(s) + 1 {
		for _, part := range parts {
			yield(s[:i] + part + s[i:])
			if i < len(s) {
				yield(s[:i] + part + s[i+1:])
			}
		}
	}
}
