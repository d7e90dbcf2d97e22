package message_test

import (
	"slices"
	"strings"
	"testing"
	"unsafe"

	"halfwayhouse/api"
	"halfwayhouse/message"
)

// text returns a text of the bytes of s, and a function that overwrites them.
func text(s string) (string, func()) {
	b := []byte(s)
	return unsafe.String(unsafe.SliceData(b), len(b)), func() {
		for i := range b {
			b[i] = 'z'
		}
	}
}

// What was fed is not read again, wherever it was cut.
func TestFedBytesAreNotKept(t *testing.T) {
	for _, s := range []string{
		"\r\nPUT /p HTTP/1.1\r\nHost: a\r\nX: y\r\nContent-Length: 3\r\n\r\nabc",
		"PUT /p HTTP/1.1\r\nHost: a\r\nTransfer-Encoding: chunked\r\n\r\n1\r\na\r\n2\r\nbc\r\n0\r\nT: u\r\n\r\n",
		"HTTP/1.1 200 OK\r\nX: y\r\nContent-Length: 3\r\n\r\nabc",
		"HTTP/1.1 200 OK\r\nX: y\r\n\r\nabc",
	} {
		for cut := range len(s) + 1 {
			p := message.Requests(wide())
			if strings.HasPrefix(s, "HTTP") {
				method, wipe := text("GET")
				p = message.Responses(wide())
				p.Expect(method)
				wipe()
				head, wipe := text("HEAD")
				p.Expect(head)
				wipe()
			}
			whole := feedAll(p, s[:cut], s[cut:])
			m := parsed(s)
			if !equal(whole, m) || m.Body != "abc" {
				t.Errorf("%q cut at %d: %+v", s, cut, whole)
			}
		}
	}
}

// feedAll feeds the pieces, each of which is overwritten then, and returns the message.
func feedAll(p *message.Parser, pieces ...string) api.Msg {
	var wipes []func()
	for _, piece := range pieces {
		fed, wipe := text(piece)
		p.Feed(fed)
		wipe()
		wipes = append(wipes, wipe)
	}
	p.End()
	m, _ := p.Next()
	for _, wipe := range wipes {
		wipe()
	}
	return m
}

// parsed returns the message s.
func parsed(s string) api.Msg {
	p := message.Requests(wide())
	if strings.HasPrefix(s, "HTTP") {
		p = responses(wide(), "GET")()
	}
	p.Feed(s)
	p.End()
	m, _ := p.Next()
	return m
}

// A method that was expected is not read again.
func TestMethodsAreNotKept(t *testing.T) {
	p := message.Responses(wide())
	method, wipe := text("HEAD")
	p.Expect(method)
	wipe()
	if v := told(p, "HTTP/1.1 200 OK\r\nContent-Length: 3\r\n\r\n"); !v.waits || v.msg.Body != "" {
		t.Errorf("%+v", v)
	}
}

// What All was passed is not read again.
func TestAllKeepsNothing(t *testing.T) {
	const s = "PUT /p HTTP/1.1\r\nHost: a\r\nContent-Length: 3\r\n\r\nabcPUT /q HTTP/1.1\r\nHost: a\r\nTransfer-Encoding: chunked\r\n\r\n2\r\nde\r\n0\r\nT: u\r\n\r\n"
	fed, wipe := text(s)
	l, _ := message.All(wide(), fed)
	wipe()
	if kept, _ := message.All(wide(), s); len(l) != 2 || !slices.EqualFunc(l, kept, equal) {
		t.Errorf("%+v", l)
	}
}

// The lists of a message are new memory, with their spare capacity, whatever is done with those of other messages.
func TestMessagesAreNewMemory(t *testing.T) {
	const s = "PUT /p HTTP/1.1\r\nHost: a\r\nX: 1\r\nY: 2\r\nTransfer-Encoding: chunked\r\nZ: 3\r\n\r\n0\r\nT: u\r\nU: v\r\nV: w\r\n\r\n"
	l, status := message.All(wide(), s+s+s)
	if len(l) != 3 || status != 0 {
		t.Fatalf("%+v, %d", l, status)
	}
	for i := range l {
		fields, trailers := l[i].Fields, l[i].Trailers
		clear(fields[:cap(fields)])
		if trailers[0].Name != "T" {
			t.Errorf("trailers of message %d: %+v", i, trailers)
		}
		clear(trailers[:cap(trailers)])
		for _, m := range l[i+1:] {
			if !equal(m, parsed(s)) {
				t.Errorf("after message %d: %+v", i, m)
			}
		}
	}
	p := message.Requests(wide())
	p.Feed(s)
	m, _ := p.Next()
	clear(m.Fields[:cap(m.Fields)])
	p.Feed(s)
	clear(m.Trailers[:cap(m.Trailers)])
	if m, ok := p.Next(); !ok || !equal(m, parsed(s)) {
		t.Errorf("%+v", m)
	}
}

// Same leaves the lists of its arguments, and their spare capacity, as they are.
func TestSameLeavesItsArguments(t *testing.T) {
	a, b := of("A", "b", "C", "d"), of("a", "b", "E", "f")
	x, y := api.Msg{Fields: a[:1], Trailers: a[:1]}, api.Msg{Fields: b[:1], Trailers: b[:1]}
	if !message.Same(x, y) || !slices.Equal(a, of("A", "b", "C", "d")) || !slices.Equal(b, of("a", "b", "E", "f")) {
		t.Errorf("%q, %q", a, b)
	}
}
