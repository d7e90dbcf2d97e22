package emit_test

import (
	"slices"
	"strings"
	"testing"

	"halfwayhouse/api"
	"halfwayhouse/emit"
	"halfwayhouse/field"
	"halfwayhouse/start"
	"halfwayhouse/token"
)

// The slow form of P8.1 and P8.2, word by word.

// slowCheck returns what Check has to return for m.
func slowCheck(m api.Msg) api.Errno {
	request := m.Method != "" && m.Status == 0 && m.Reason == ""
	response := m.Method == "" && m.Target == ""
	if request {
		_, e := start.RequestLine(m.Method, m.Target, m.Minor)
		request = e == api.OK
	}
	if response {
		_, e := start.StatusLine(m.Minor, m.Status, m.Reason)
		response = e == api.OK
	}
	if !request && !response {
		return api.ErrBad
	}
	for _, f := range slices.Concat(m.Fields, m.Trailers) {
		if field.Check(f) != api.OK {
			return api.ErrBad
		}
	}
	for _, f := range m.Fields {
		if token.Same(f.Name, "Content-Length") || token.Same(f.Name, "Transfer-Encoding") {
			return api.ErrThere
		}
	}
	return api.OK
}

// slowHead returns the first line and the fields of a message that can be sent, without the empty line.
func slowHead(m api.Msg, added ...string) string {
	first := m.Method + " " + m.Target + " HTTP/1." + decimal(m.Minor)
	if m.Method == "" {
		first = "HTTP/1." + decimal(m.Minor) + " " + decimal(m.Status) + " " + m.Reason
	}
	s := first + "\r\n"
	for _, f := range append(slices.Clone(m.Fields), of(added...)...) {
		s += f.Name + ": " + f.Value + "\r\n"
	}
	return s
}

// slowRequest returns what Request has to return.
func slowRequest(m api.Msg) result {
	e := slowCheck(m)
	switch {
	case e != api.OK:
		return result{"", e}
	case m.Method == "":
		return result{"", api.ErrBad}
	case m.Body == "" && m.Method != "POST" && m.Method != "PUT" && m.Method != "PATCH":
		return result{slowHead(m) + "\r\n", api.OK}
	}
	return result{slowHead(m, "Content-Length", decimal(len(m.Body))) + "\r\n" + m.Body, api.OK}
}

// slowlyBare reports whether a response with that status has no content.
func slowlyBare(status int) bool { return status/100 == 1 || status == 204 || status == 304 }

// slowResponse returns what Response has to return.
func slowResponse(m api.Msg, method string) result {
	e := slowCheck(m)
	switch {
	case e != api.OK:
		return result{"", e}
	case m.Method != "":
		return result{"", api.ErrBad}
	case slowlyBare(m.Status), method == "HEAD" && m.Body == "":
		return result{slowHead(m) + "\r\n", api.OK}
	}
	s := slowHead(m, "Content-Length", decimal(len(m.Body))) + "\r\n"
	if method == "HEAD" {
		return result{s, api.OK}
	}
	return result{s + m.Body, api.OK}
}

// slowChunked returns what Chunked has to return, for sizes from 1 to 15.
func slowChunked(m api.Msg, size int) result {
	e := slowCheck(m)
	switch {
	case e != api.OK:
		return result{"", e}
	case m.Minor == 0, m.Method == "" && slowlyBare(m.Status):
		return result{"", api.ErrBad}
	}
	s := slowHead(m, "Transfer-Encoding", "chunked") + "\r\n"
	for chunk := range slices.Chunk([]byte(m.Body), size) {
		s += string("0123456789abcdef"[len(chunk)]) + "\r\n" + string(chunk) + "\r\n"
	}
	s += "0\r\n"
	for _, f := range m.Trailers {
		s += f.Name + ": " + f.Value + "\r\n"
	}
	return result{s + "\r\n", api.OK}
}

// each calls f with a message of each combination of a few parts.
func each(f func(m api.Msg)) {
	lists := [][]api.Field{nil, of("A", "1", "a", ""), of("A", " "), of("Content-LENGTH", "2"), of("B", "1", "Transfer-Encoding", "x", "c", "\n")}
	for _, method := range []string{"", "GET", "HEAD", "POST", "PUT", "PATCH", "post", "G T"} {
		for _, target := range []string{"", "/", "a b"} {
			for _, status := range []int{0, 99, 100, 150, 199, 200, 204, 304, 599, 600} {
				for _, reason := range []string{"", "OK", "\r"} {
					for minor := -1; minor < 3; minor++ {
						for _, fields := range lists {
							for _, trailers := range lists {
								f(api.Msg{Method: method, Target: target, Status: status, Reason: reason, Minor: minor, Fields: fields, Trailers: trailers})
							}
						}
					}
				}
			}
		}
	}
}

// P8.1, P8.2: messages of all combinations of a few parts.
func TestAllParts(t *testing.T) {
	sent := 0
	each(func(m api.Msg) {
		if got, want := emit.Check(m), slowCheck(m); got != want {
			t.Fatalf("Check(%+v) = %d, not %d", m, got, want)
		}
		for _, body := range []string{"", "abc\r\n"} {
			m.Body = body
			results := []result{asked(m), told(m, "GET"), told(m, "HEAD"), cut(m, 5), cut(m, 2)}
			wants := []result{slowRequest(m), slowResponse(m, "GET"), slowResponse(m, "HEAD"), slowChunked(m, 5), slowChunked(m, 2)}
			if !slices.Equal(results, wants) {
				t.Fatalf("%+v: %+v, not %+v", m, results, wants)
			}
			if results[0].e == api.OK || results[1].e == api.OK {
				sent++
			}
		}
	})
	const versions, fields, trailers, bodies = 2, 2, 3, 2 // that are valid, of each kind
	const requests, responses = 6, 7 * 2                  // methods with a target; statuses with a reason
	if sent != (requests+responses)*versions*fields*trailers*bodies {
		t.Errorf("%d messages could be sent", sent)
	}
}

// P8.1, P8.2: contents of many lengths.
func TestAllLengths(t *testing.T) {
	for n := range 300 {
		body := strings.Repeat("x", n)
		for _, method := range []string{"GET", "HEAD", "POST", "CONNECT"} {
			if m := ask(method, body); asked(m) != slowRequest(m) {
				t.Errorf("Request(%s, %d bytes) = %+v", method, n, asked(m))
			}
			if m := answer(200, body); told(m, method) != slowResponse(m, method) {
				t.Errorf("Response(%d bytes, %s) = %+v", n, method, told(m, method))
			}
		}
		for size := range 15 {
			if m := answer(200, body); cut(m, size+1) != slowChunked(m, size+1) {
				t.Errorf("Chunked(%d bytes, %d) = %+v", n, size+1, cut(m, size+1))
			}
		}
	}
}
