package chunk_test

import (
	"strconv"
	"strings"
	"testing"

	"halfwayhouse/api"
	"halfwayhouse/chunk"
	"halfwayhouse/field"
)

// The slow form of P5.2: the flaw of a text is that of its shortest beginning that has one, and each beginning is looked at as a whole.

// slowly returns what a decoder with those limits has to tell after it was fed s.
func slowly(l api.Limits, s string) want {
	var last want
	for n := range len(s) + 1 {
		w := beginning(l, s[:n])
		if w.status != 0 { // what the byte before it had brought stays
			w.body, w.trailers = last.body, last.trailers
			return w
		}
		if w.done {
			return w
		}
		last = w
	}
	return last
}

// beginning looks at s, of which no shorter beginning has a flaw or the end.
func beginning(l api.Limits, s string) want {
	w := want{n: len(s)}
	flawed := func(status int) want { return want{n: len(s), status: status} }
	rest := s
	for {
		line, ended, ok := cutLine(l, rest)
		if !ok {
			return flawed(400)
		}
		if !ended {
			return w
		}
		rest = rest[len(line)+2:]
		size, status := slowSize(line)
		if status != 0 {
			return flawed(status)
		}
		if uint64(len(w.body))+size > uint64(l.Body) {
			return flawed(413)
		}
		if size == 0 {
			break
		}
		got := min(size, uint64(len(rest)))
		w.body += rest[:got]
		rest = rest[got:]
		if !strings.HasPrefix(rest, "\r\n") {
			if strings.HasPrefix("\r\n", rest) {
				return w
			}
			return flawed(400)
		}
		rest = rest[2:]
	}
	head := len(rest)
	for {
		line, ended, ok := cutLine(l, rest)
		if !ok {
			return flawed(400)
		}
		left := ""
		if ended {
			left = rest[len(line)+2:]
		}
		if head-len(left) > l.Head {
			return flawed(431)
		}
		if !ended {
			return w
		}
		rest = left
		if line == "" {
			w.done = true
			return w
		}
		f, e := field.Line(line)
		if e != api.OK {
			return flawed(400)
		}
		if len(w.trailers) == l.Count {
			return flawed(431)
		}
		w.trailers = append(w.trailers, f)
	}
}

// cutLine returns the line that s begins with, without its end, whether it has ended, and whether it is one so far.
func cutLine(l api.Limits, s string) (line string, ended, ok bool) {
	line, _, ended = strings.Cut(s, "\r\n")
	if ended {
		return line, true, !strings.ContainsAny(line, "\r\n") && len(line)+2 <= l.Line
	}
	return "", false, !strings.ContainsAny(strings.TrimSuffix(s, "\r"), "\r\n") && (s == "" || len(s) < l.Line)
}

// slowSize is the slow form of Size in P5.1.
func slowSize(s string) (uint64, int) {
	digits := 0
	for digits < len(s) && strings.Contains("0123456789abcdefABCDEF", s[digits:digits+1]) {
		digits++
	}
	if digits < 1 || digits > 16 || digits < len(s) && s[digits] != ';' {
		return 0, 400
	}
	for _, c := range []byte(s[digits:]) {
		if c != 9 && (c < 32 || c == 127) {
			return 0, 400
		}
	}
	n, _ := strconv.ParseUint(s[:digits], 16, 64)
	if n >= 1<<53 {
		return 0, 413
	}
	return n, 0
}

// texts yields every text of at most that many of the parts.
func texts(most int, parts []string, yield func(s string)) {
	yield("")
	if most == 0 {
		return
	}
	for _, part := range parts {
		texts(most-1, parts, func(s string) { yield(part + s) })
	}
}

// someLimits are limits of which each is near what short texts have.
func someLimits() []api.Limits {
	l := []api.Limits{wide(), {}, {Line: 3, Head: 2}, {Line: 5, Head: 7, Count: 1, Body: 2}, {Line: 100, Head: 5, Count: 1, Body: 1}, {Line: 4, Head: 100, Count: 100, Body: 100}, {Line: 100, Head: 100, Count: 0, Body: 100}}
	for line := range 8 {
		l = append(l, api.Limits{Line: line, Head: 6, Count: 1, Body: 2})
	}
	for head := range 8 {
		l = append(l, api.Limits{Line: 6, Head: head, Count: 1, Body: 2})
	}
	return l
}

// P5.1: sizes of all short texts.
func TestSizeSlowly(t *testing.T) {
	texts(5, []string{"0", "1", "f", "A", "g", ";", " ", "\r", "\x7f", "\xff", "00000000", "20000000"}, func(s string) {
		n, status := chunk.Size(s)
		if want, wantStatus := slowSize(s); n != int64(want) || status != wantStatus {
			t.Errorf("Size(%q) = %d, %d, not %d, %d", s, n, status, want, wantStatus)
		}
	})
}

// P5.2: all short texts, after beginnings that lead into each state.
func TestFeedSlowly(t *testing.T) {
	for _, begin := range []string{"", "1", "1\r\n", "1\r\nx", "1\r\nx\r\n", "0\r\n", "0\r\na:", "0\r\na:\r\n"} {
		texts(4, []string{"\r", "\n", "\r\n", "0", "2", "a", ":", ";", "\x00"}, func(s string) {
			s = begin + s
			for _, l := range someLimits()[:6] {
				if v, w := told(chunk.New(l), s), slowly(l, s); !same(v, w) {
					t.Errorf("%+v, %q: %#v, not %#v", l, s, v, w)
				}
			}
		})
	}
}

// P5.2: contents with up to two places at which bytes are put in, left out or replaced, cut at every place.
func TestFeedOfEditedContents(t *testing.T) {
	parts := []string{"", "\r", "\n", "\r\n", "0", "1", "a", ":", ";", " ", "\x00", "\xff", "0\r\n\r\n", "1\r\na\r\n"}
	for _, s := range []string{"0\r\n\r\n", "1\r\na\r\n0\r\n\r\n", "2;x\r\nab\r\n0\r\na:b\r\n\r\n", "0\r\na:b\r\nc: d\r\n\r\n"} {
		edit(s, parts, func(once string) {
			for _, l := range someLimits() {
				w := slowly(l, once)
				check(t, l, once, w)
				for cut := range len(once) {
					if v := told(chunk.New(l), once, cut); !same(v, w) {
						t.Errorf("%+v, %q cut at %d: %#v, not %#v", l, once, cut, v, w)
					}
				}
			}
			edit(once, parts[:6], func(twice string) {
				for _, l := range someLimits()[:5] {
					if v, w := told(chunk.New(l), twice), slowly(l, twice); !same(v, w) {
						t.Errorf("%+v, %q: %#v, not %#v", l, twice, v, w)
					}
				}
			})
		})
	}
}

// edit yields s with each of the parts put in at each place, and in place of each byte.
func edit(s string, parts []string, yield func(s string)) {
	for i := range len(s) + 1 {
		for _, part := range parts {
			yield(s[:i] + part + s[i:])
			if i < len(s) {
				yield(s[:i] + part + s[i+1:])
			}
		}
	}
}
