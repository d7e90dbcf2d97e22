package message

import (
	"strconv"

	"halfwayhouse/api"
	"halfwayhouse/chunk"
	"halfwayhouse/field"
	"halfwayhouse/framing"
	"halfwayhouse/start"
)

// A state consumes bytes of in, at least one. It returns the state for those that follow, or nil if the message is complete. If it finds a flaw, that is at the last byte that it consumed.
type state func(p *Parser, in *input) (state, error)

// input is what has not been consumed yet of the bytes that were fed.
type input struct{ rest string }

// take consumes the next n bytes, or all that are left if they are fewer.
func (in *input) take(n int) string {
	n = min(n, len(in.rest))
	taken := in.rest[:n]
	in.rest = in.rest[n:]
	return taken
}

// A flaw is the status with which a message is rejected.
type flaw int

func (f flaw) Error() string { return "rejected with status " + strconv.Itoa(int(f)) }

// malformed is the panic at a byte that cannot stand at its place in any line.
type malformed struct{}

// beforeRequest is the state in the first line of a request, or in the empty line that may come before it.
func beforeRequest(p *Parser, in *input) (state, error) {
	text, ended, err := p.readLine(in)
	switch {
	case err != nil:
		return nil, err
	case !ended:
		return beforeRequest, nil
	case text == "":
		return requestLine, nil
	}
	return p.request(text)
}

// requestLine is the state in the first line of a request that comes after an empty line.
func requestLine(p *Parser, in *input) (state, error) {
	text, ended, err := p.readLine(in)
	switch {
	case err != nil:
		return nil, err
	case !ended:
		return requestLine, nil
	}
	return p.request(text)
}

// request begins a request with the first line text.
func (p *Parser) request(text string) (state, error) {
	method, target, minor, status := start.Request(text)
	if status != 0 {
		return nil, flaw(status)
	}
	p.msg = api.Msg{Method: method, Target: target, Minor: minor}
	return fieldLine, nil
}

// statusLine is the state in the first line of a response.
func statusLine(p *Parser, in *input) (state, error) {
	text, ended, err := p.readLine(in)
	switch {
	case err != nil:
		return nil, err
	case !ended:
		return statusLine, nil
	}
	minor, status, reason, e := start.Status(text)
	if e != api.OK {
		return nil, flaw(api.Status400)
	}
	p.msg = api.Msg{Status: status, Reason: reason, Minor: minor}
	return fieldLine, nil
}

// fieldLine is the state in a field line, or in the empty line that ends the head.
func fieldLine(p *Parser, in *input) (state, error) {
	text, ended, err := p.readLine(in)
	switch {
	case err != nil:
		return nil, err
	case !ended:
		return fieldLine, nil
	case text == "":
		return p.headEnd()
	}
	f, e := field.Line(text)
	switch {
	case e != api.OK:
		return nil, flaw(api.Status400)
	case len(p.msg.Fields) >= p.limits.Count:
		return nil, flaw(api.Status431)
	}
	p.msg.Fields = append(p.msg.Fields, f)
	return fieldLine, nil
}

// readLine consumes what of in belongs to the current line. It returns the line without its end once that is there.
func (p *Parser) readLine(in *input) (text string, ended bool, err error) {
	for in.rest != "" {
		if ended, err = p.add(in.take(1)[0]); err != nil {
			return "", false, err
		}
		if ended {
			text = string(p.line[:len(p.line)-len("\r\n")])
			p.line = p.line[:0]
			return text, true, nil
		}
	}
	return "", false, nil
}

// add adds c to the line, and reports whether that is its end.
func (p *Parser) add(c byte) (ended bool, err error) {
	afterCR := len(p.line) > 0 && p.line[len(p.line)-1] == '\r'
	p.line = append(p.line, c)
	p.head++
	ended = afterCR && c == '\n'
	switch {
	case !ended && len(p.line) >= p.limits.Line:
		return false, flaw(api.Status431)
	case afterCR != (c == '\n'):
		panic(malformed{})
	case p.head > p.limits.Head:
		return false, flaw(api.Status431)
	}
	return ended, nil
}

// headEnd returns the state for the content.
func (p *Parser) headEnd() (state, error) {
	if !p.responses && !hostFits(p.msg) {
		return nil, flaw(api.Status400)
	}
	frame, status := p.framed()
	if status != 0 {
		return nil, flaw(status)
	}
	p.frame = frame
	switch frame.Kind {
	case api.FrameLength:
		if frame.Len > int64(p.limits.Body) {
			return nil, flaw(api.Status413)
		}
		return counted, nil
	case api.FrameChunks:
		p.chunks = chunk.New(p.limits)
		return chunked, nil
	case api.FrameClose:
		return toTheEnd, nil
	}
	return nil, nil
}

// hostFits reports whether the request m has as many fields Host as its version asks for, with a host or nothing in it.
func hostFits(m api.Msg) bool {
	hosts := field.All(m.Fields, "Host")
	if len(hosts) == 0 {
		return m.Minor == 0
	}
	return len(hosts) == 1 && (hosts[0] == "" || start.Host(hosts[0]))
}

// framed returns the frame of the message whose head has ended, or a status.
func (p *Parser) framed() (api.Frame, int) {
	if p.responses {
		return framing.Response(p.methods[0], p.msg.Status, p.msg.Minor, p.msg.Fields)
	}
	return framing.Request(p.msg.Minor, p.msg.Fields)
}

// counted is the state in content whose length is known.
func counted(p *Parser, in *input) (state, error) {
	missing := int(p.frame.Len) - len(p.body) // the length is at most Body, so it is an int
	p.body = append(p.body, in.take(missing)...)
	if int64(len(p.body)) < p.frame.Len {
		return counted, nil
	}
	return p.complete(), nil
}

// toTheEnd is the state in content that extends to the end of the connection.
func toTheEnd(p *Parser, in *input) (state, error) {
	p.body = append(p.body, in.take(p.limits.Body-len(p.body))...)
	if in.take(1) != "" {
		return nil, flaw(api.Status413)
	}
	return toTheEnd, nil
}

// complete makes the bytes of the content that of the message, and returns the state after that.
func (p *Parser) complete() state {
	p.msg.Body = string(p.body)
	return nil
}

// chunked is the state in content in chunks.
func chunked(p *Parser, in *input) (state, error) {
	n, status := p.chunks.Feed(in.rest)
	in.take(n)
	switch {
	case status != 0:
		return nil, flaw(status)
	case !p.chunks.Done():
		return chunked, nil
	}
	p.msg.Body, p.msg.Trailers = p.chunks.Body(), p.chunks.Trailers()
	return nil, nil
}
