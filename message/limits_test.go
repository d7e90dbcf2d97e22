package message_test

import (
	"strings"
	"testing"

	"halfwayhouse/api"
	"halfwayhouse/message"
)

// big is more than anything here has.
const big = 1000

func with(line, head, count, body int) api.Limits {
	return api.Limits{Line: line, Head: head, Count: count, Body: body}
}

// P6.1: a request and a response whose head and content are just within the limits.
func TestAtTheLimits(t *testing.T) {
	const head = "GET / HTTP/1.1\r\nHost: a\r\nX: 34567890123\r\n" // lines of 16, 9 and 16 bytes
	const plain, sized, coded = head + "\r\n", head + "Content-Length:5\r\n\r\nabcde", head + "Transfer-Encoding:chunked\r\n\r\n3\r\nabc\r\n2\r\nde\r\n0\r\nT:1\r\n\r\n"
	const most = 1<<63 - 1
	for _, x := range []struct {
		s string
		l api.Limits
	}{
		{plain, with(16, 43, 2, 0)}, {"\r\n" + plain, with(16, 45, 2, 0)}, {sized, with(18, 61, 3, 5)}, {coded, with(27, 70, 3, 5)},
		{plain, with(most, most, most, most)}, {sized, with(most, most, most, most)}, {coded, with(most, most, most, most)}, {"GET / HTTP/1.0\r\n\r\n", with(16, 18, 0, 0)}, {"GET / HTTP/1.0\r\n\r\n", with(16, 18, -1, -1)},
	} {
		if v := told(message.Requests(x.l), x.s); v.n != len(x.s) || v.status != 0 || !v.waits {
			t.Errorf("%+v, %q: %+v", x.l, x.s, v)
		}
	}
	for _, s := range []string{"HTTP/1.1 200 OK\r\nContent-Length:5\r\n\r\nabcde", "HTTP/1.1 200 OK\r\nAa-aaaaaaaaaaa:5\r\n\r\nabcde"} {
		for _, l := range []api.Limits{with(18, 37, 1, 5), with(most, most, most, most)} {
			p := responses(l, "GET")()
			n, status := p.Feed(s)
			if status += p.End(); n != len(s) || status != 0 {
				t.Errorf("%+v, %q: %d, %d", l, s, n, status)
			}
			if m, ok := p.Next(); !ok || m.Body != "abcde" {
				t.Errorf("%+v, %q: %+v, %t", l, s, m, ok)
			}
		}
	}
}

// P6.1: what exceeds a limit, and at which byte: the last one. Where there are two flaws at it, which one is told.
func TestBeyondTheLimits(t *testing.T) {
	const line = "GET / HTTP/1.1\r\n"
	const host = line + "Host: a\r\n"
	for _, x := range []struct {
		l      api.Limits
		s      string
		status int
	}{
		{with(0, big, big, big), "G", 431}, {with(1, big, big, big), "G", 431}, {with(1, big, big, big), "\r", 431}, {with(2, big, big, big), "GE", 431}, {with(-5, big, big, big), "G", 431}, {with(-1<<63, -1<<63, -1<<63, -1<<63), "\r", 431},
		{with(15, big, big, big), "GET / HTTP/1.1\r", 431}, {with(14, big, big, big), "GET / HTTP/1.1", 431}, {with(16, big, big, big), line + "0123456789abcdef", 431}, {with(16, big, big, big), line + "0123456789abcde\r", 431}, {with(16, big, big, big), host + "0123456789abcdef", 431}, {with(15, big, big, big), "\r\nGET / HTTP/1.1\r", 431},
		{with(big, 0, big, big), "G", 431}, {with(big, -1, big, big), "\r", 431}, {with(big, 15, big, big), line, 431}, {with(big, 16, big, big), line + "\r", 431}, {with(big, 17, big, big), line + "\r\n", 431}, {with(big, 26, big, big), host + "\r\n", 431}, {with(big, 25, big, big), host + "\r", 431}, {with(big, 24, big, big), host, 431},
		{with(big, 1, big, big), "\r\n", 431}, {with(big, 2, big, big), "\r\nG", 431}, {with(big, 28, big, big), "\r\n" + host + "\r\n", 431},
		{with(big, big, 0, big), host, 431}, {with(big, big, 1, big), host + "x:y\r\n", 431}, {with(big, big, -1, big), "GET / HTTP/1.0\r\nx:y\r\n", 431}, {with(big, big, 2, big), host + "x:y\r\nx:y\r\n", 431},
		{with(big, big, big, 4), host + "Content-Length: 5\r\n\r\n", 413}, {with(big, big, big, 0), host + "Content-Length: 1\r\n\r\n", 413}, {with(big, big, big, -1), host + "Content-Length: 1\r\n\r\n", 413}, {with(big, big, big, 1<<63-1), host + "Content-Length: 9007199254740992\r\n\r\n", 400},
		{with(27, big, big, 4), host + "Transfer-Encoding: chunked\r", 431}, {with(28, big, big, 4), host + "Transfer-Encoding: chunked\r\n\r\n5\r\n", 413}, {with(28, big, big, 4), host + "Transfer-Encoding: chunked\r\n\r\n3\r\nabc\r\n2\r\n", 413}, {with(28, big, big, 4), host + "Transfer-Encoding: chunked\r\n\r\n" + strings.Repeat("0", 28), 400}, // a line of chunks is not one of the head
		{with(28, 55, 2, 4), host + "Transfer-Encoding: chunked\r\n\r\n0\r\na:b\r\nc:d\r\ne:f\r\n", 431}, {with(50, 55, big, 4), host + "Transfer-Encoding: chunked\r\n\r\n0\r\na:" + strings.Repeat("b", 40) + "\r\nc:" + strings.Repeat("d", 10), 431},
		// Of a line as a line, first that it is too long, then that it is malformed.
		{with(5, big, big, big), "GET \n", 431}, {with(6, big, big, big), "GET \n", 400}, {with(5, big, big, big), "GET\rx", 431}, {with(6, big, big, big), "GET\rx", 400}, {with(1, big, big, big), "\n", 431}, {with(2, big, big, big), "\n", 400}, {with(2, big, big, big), "\rG", 431}, {with(3, big, big, big), "\rG", 400},
		// Then that the head is too long.
		{with(5, 4, big, big), "GET \n", 431}, {with(big, 4, big, big), "GET \n", 400}, {with(big, 4, big, big), "GET\rx", 400}, {with(big, 4, big, big), "GET x", 431}, {with(big, 4, big, big), "GET \r", 431}, {with(big, 2, big, big), "\r\n\n", 400}, {with(big, 16, big, big), line + "\n", 400}, {with(big, 25, big, big), host + "\n", 400},
		// Then what the line contains.
		{with(big, 4, big, big), "GET\r\n", 431}, {with(big, 5, big, big), "GET\r\n", 400}, {with(16, 15, big, big), "GET / HTTP/2.0\r\n", 431}, {with(16, 16, big, big), "GET / HTTP/2.0\r\n", 505}, {with(16, 18, big, big), line + "x\r\n", 431}, {with(16, 19, big, big), line + "x\r\n", 400}, {with(big, 3, big, big), "\r\n\r\n", 431}, {with(big, 4, big, big), "\r\n\r\n", 400},
		{with(big, big, 0, big), line + "x\r\n", 400}, {with(big, big, 1, big), host + ":x\r\n", 400}, {with(big, 24, 0, big), host, 431}, {with(big, big, 0, big), line + "Host: /\r\n", 431},
		// Then the host, and then the framing.
		{with(big, 17, big, big), line + "\r\n", 431}, {with(big, 18, big, big), line + "\r\n", 400}, {with(big, big, big, 0), line + "Content-Length: 1\r\n\r\n", 400}, {with(big, big, big, 0), host + "Content-Length: 1, 2\r\n\r\n", 400}, {with(big, big, big, 0), host + "Content-Length: 1\r\nTransfer-Encoding: x\r\n\r\n", 400},
	} {
		checkFlaw(t, requests(x.l), x.s, x.status)
	}
}

// P6.1: the same of responses, which no empty line comes before.
func TestResponsesBeyondTheLimits(t *testing.T) {
	const line = "HTTP/1.1 200 OK\r\n"
	const open = line + "\r\n"
	for _, x := range []struct {
		l      api.Limits
		s      string
		status int
	}{
		{with(16, big, big, big), "HTTP/1.1 200 OK\r", 431}, {with(big, 16, big, big), line, 431}, {with(big, 18, big, big), open, 431}, {with(big, 1, big, big), "\r\n", 431}, {with(big, 2, big, big), "\r\n", 400}, {with(big, 9, big, big), "HTTP/2.0\r\n", 431}, {with(big, big, 0, big), line + "a:b\r\n", 431}, {with(big, big, 0, big), line + "ab\r\n", 400},
		{with(big, big, big, 2), line + "Content-Length: 3\r\n\r\n", 413}, {with(big, big, big, 2), line + "Transfer-Encoding: chunked\r\n\r\n3\r\n", 413},
		{with(big, big, big, 0), open + "a", 413}, {with(big, big, big, -1), open + "a", 413}, {with(big, big, big, 1), open + "ab", 413}, {with(big, big, big, 5), open + "abcdef", 413}, {with(17, 19, 0, 2), open + "\r\n\r", 413},
	} {
		checkFlaw(t, responses(x.l, "GET"), x.s, x.status)
	}
	for _, method := range []string{"HEAD", "GET"} { // one without content is not too long
		status := map[string]string{"HEAD": "200", "GET": "304"}[method]
		s := "HTTP/1.1 " + status + " x\r\nContent-Length: 3\r\n\r\n"
		if v := told(responses(with(big, big, big, 0), method)(), s); v.n != len(s) || v.status != 0 || !v.waits {
			t.Errorf("%s: %+v", method, v)
		}
	}
}

// P6.1: limits are those of one message, not of all.
func TestLimitsAreOfOneMessage(t *testing.T) {
	const s = "\r\nPUT / HTTP/1.1\r\nHost: a\r\nContent-Length:2\r\n\r\nab\r\nPUT / HTTP/1.1\r\nHost: a\r\nTransfer-Encoding:chunked\r\n\r\n2\r\nab\r\n0\r\nT:1\r\nU:2\r\n\r\n"
	if l, status := message.All(with(27, 56, 2, 2), strings.Repeat(s, 5)); len(l) != 10 || status != 0 {
		t.Errorf("%d, %d", len(l), status)
	}
	p := message.Responses(with(18, 37, 1, 2))
	for range 5 {
		p.Expect("GET")
		if v := told(p, "HTTP/1.1 200 OK\r\nContent-Length:2\r\n\r\nab"); v.status != 0 || !v.waits {
			t.Errorf("%+v", v)
		}
	}
}

// P6.1: contents of many bytes.
func TestLongContents(t *testing.T) {
	body := strings.Repeat("0123456789abcde\n", 1<<14)
	for _, s := range []string{
		"PUT / HTTP/1.1\r\nHost: a\r\nContent-Length: 262144\r\n\r\n" + body,
		"PUT / HTTP/1.1\r\nHost: a\r\nTransfer-Encoding: chunked\r\n\r\n40000\r\n" + body + "\r\n0\r\n\r\n",
	} {
		for _, cut := range []int{0, 1, 30, 1000, len(s) - 1000, len(s) - 1, len(s)} {
			if v := told(message.Requests(with(100, 100, 10, 1<<18)), s, cut); v.n != len(s) || v.status != 0 || v.msg.Body != body {
				t.Errorf("%.80q: %d, %d, %d bytes", s, v.n, v.status, len(v.msg.Body))
			}
		}
	}
}
