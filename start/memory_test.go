package start_test

import (
	"testing"
	"unsafe"

	"halfwayhouse/start"
)

// text returns a text of the bytes of s, and a function that overwrites them.
func text(s string) (string, func()) {
	b := []byte(s)
	return unsafe.String(&b[0], len(b)), func() {
		for i := range b {
			b[i] = 'z'
		}
	}
}

// Results stay as they are whatever happens to the memory of the arguments.
func TestResultsAreNewMemory(t *testing.T) {
	line, wipeLine := text("GET /a HTTP/1.1")
	answer, wipeAnswer := text("HTTP/1.1 200 OK")
	path, wipePath := text("/a")
	whole, wipeWhole := text("http://b:1/a")
	pair, wipePair := text("b:1")
	method, wipeMethod := text("GET")
	reason, wipeReason := text("OK")

	readMethod, readTarget, _, _ := start.Request(line)
	_, _, readReason, _ := start.Status(answer)
	origin, _ := start.Target("GET", path)
	absolute, _ := start.Target("GET", whole)
	authority, _ := start.Target("CONNECT", pair)
	first, _ := start.RequestLine(method, path, 1)
	second, _ := start.StatusLine(1, 200, reason)
	for _, wipe := range []func(){wipeLine, wipeAnswer, wipePath, wipeWhole, wipePair, wipeMethod, wipeReason} {
		wipe()
	}
	for _, x := range [][2]string{
		{readMethod, "GET"}, {readTarget, "/a"}, {readReason, "OK"}, {origin.Path, "/a"}, {absolute.Host, "b:1"}, {absolute.Path, "/a"}, {authority.Host, "b:1"},
		{first, "GET /a HTTP/1.1"}, {second, "HTTP/1.1 200 OK"},
	} {
		if x[0] != x[1] {
			t.Errorf("%q, want %q", x[0], x[1])
		}
	}
}
