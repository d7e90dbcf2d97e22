package chunk_test

import (
	"slices"
	"strconv"
	"strings"
	"testing"

	"halfwayhouse/api"
	"halfwayhouse/chunk"
	"halfwayhouse/field"
)

// of makes a list of names and values in turn.
func of(texts ...string) []api.Field {
	var l []api.Field
	for i := 0; i < len(texts); i += 2 {
		l = append(l, api.Field{Name: texts[i], Value: texts[i+1]})
	}
	return l
}

// wide are limits that nothing here exceeds.
func wide() api.Limits { return api.Limits{Line: 1 << 20, Head: 1 << 20, Count: 100, Body: 1 << 20} }

// P5.1: size lines.
func TestSize(t *testing.T) {
	for _, x := range []struct {
		s      string
		n      int64
		status int
	}{
		{"0", 0, 0}, {"1", 1, 0}, {"9", 9, 0}, {"a", 10, 0}, {"F", 15, 0}, {"10", 16, 0}, {"00", 0, 0}, {"00000000000000ff", 255, 0}, {"DeadBeef", 0xdeadbeef, 0}, {"0000000000000000", 0, 0},
		{"3;", 3, 0}, {"3;a", 3, 0}, {"3;a=b", 3, 0}, {"3; a = \"b\" ; c", 3, 0}, {"3;;;", 3, 0}, {"3;\t\x80\xff~", 3, 0}, {"3;\"", 3, 0}, {"0;x", 0, 0}, {"3;" + strings.Repeat("x", 1000), 3, 0},
		{"1fffffffffffff", api.MaxNumber, 0}, {"001FFFFFFFFFFFFF;x", api.MaxNumber, 0},
		{"20000000000000", 0, 413}, {"0020000000000000", 0, 413}, {"7fffffffffffffff", 0, 413}, {"8000000000000000", 0, 413}, {"ffffffffffffffff", 0, 413}, {"FFFFFFFFFFFFFFFF;x", 0, 413},
		{"ffffffffffffffff;\r", 0, 400}, {"ffffffffffffffff ", 0, 400}, // malformed comes first
		{"00000000000000000", 0, 400}, {"00000000000000001", 0, 400}, {"10000000000000000", 0, 400}, {"fffffffffffffffff", 0, 400}, {strings.Repeat("0", 1000), 0, 400}, // too many digits
		{"", 0, 400}, {";", 0, 400}, {";x", 0, 400}, {" ", 0, 400}, {" 3", 0, 400}, {"3 ", 0, 400}, {"3 ;x", 0, 400}, {"3\t;", 0, 400}, {"3,4", 0, 400}, {"3 4", 0, 400}, {"3=x", 0, 400},
		{"g", 0, 400}, {"3g", 0, 400}, {"g3", 0, 400}, {"x3", 0, 400}, {"0x3", 0, 400}, {"0X3", 0, 400}, {"3h", 0, 400}, {"-3", 0, 400}, {"+3", 0, 400}, {"-0", 0, 400}, {"1_0", 0, 400}, {"0_1", 0, 400}, {"1.", 0, 400}, {"٣", 0, 400},
		{"3\r", 0, 400}, {"3\n", 0, 400}, {"3\r\n", 0, 400}, {"3;\r\n", 0, 400}, {"3;\n", 0, 400}, {"3;\x00", 0, 400}, {"3;a\x7f", 0, 400}, {"3;a;b\x1f", 0, 400}, {"\x00", 0, 400}, {"3\x00;", 0, 400},
	} {
		if n, status := chunk.Size(x.s); n != x.n || status != x.status {
			t.Errorf("Size(%q) = %d, %d, not %d, %d", x.s, n, status, x.n, x.status)
		}
	}
}

// P5.1: each byte as a digit, as one of two, and after the semicolon.
func TestSizeOfEachByte(t *testing.T) {
	for i := range 256 {
		c := string([]byte{byte(i)})
		digit := strings.Index("0123456789abcdef", strings.ToLower(c))
		for _, x := range []struct {
			s string
			n int
			k bool
		}{{c, digit, digit >= 0}, {"3" + c, 48 + digit, digit >= 0 || c == ";"}, {c + "3", 16*digit + 3, digit >= 0}, {"3;" + c, 3, i == 9 || i >= 32 && i != 127}, {"3;x" + c + "x", 3, i == 9 || i >= 32 && i != 127}} {
			want, wantStatus := int64(x.n), 0
			switch {
			case !x.k:
				want, wantStatus = 0, 400
			case x.s == "3;":
				want = 3
			}
			if n, status := chunk.Size(x.s); n != want || status != wantStatus {
				t.Errorf("Size(%q) = %d, %d, not %d, %d", x.s, n, status, want, wantStatus)
			}
		}
	}
}

// P5.1: the bytes of a content.
func TestEncode(t *testing.T) {
	for _, x := range []struct {
		body     string
		size     int
		trailers []api.Field
		want     string
	}{
		{"", 1, nil, "0\r\n\r\n"}, {"", 0, nil, "0\r\n\r\n"}, {"", -1, []api.Field{}, "0\r\n\r\n"}, {"", 100, nil, "0\r\n\r\n"},
		{"abc", 1, nil, "1\r\na\r\n1\r\nb\r\n1\r\nc\r\n0\r\n\r\n"}, {"abc", 2, nil, "2\r\nab\r\n1\r\nc\r\n0\r\n\r\n"}, {"abc", 3, nil, "3\r\nabc\r\n0\r\n\r\n"}, {"abc", 4, nil, "3\r\nabc\r\n0\r\n\r\n"},
		{"abcd", 2, nil, "2\r\nab\r\n2\r\ncd\r\n0\r\n\r\n"},
		{"abc", 0, nil, "3\r\nabc\r\n0\r\n\r\n"}, {"abc", -1, nil, "3\r\nabc\r\n0\r\n\r\n"}, {"abc", -1 << 63, nil, "3\r\nabc\r\n0\r\n\r\n"}, {"abc", 1<<63 - 1, nil, "3\r\nabc\r\n0\r\n\r\n"},
		{"\r\n0\r\n\r\n\x00\xff", 0, nil, "9\r\n\r\n0\r\n\r\n\x00\xff\r\n0\r\n\r\n"},
		{"0123456789", 10, nil, "a\r\n0123456789\r\n0\r\n\r\n"}, {"0123456789abcdef", 0, nil, "10\r\n0123456789abcdef\r\n0\r\n\r\n"}, {"0123456789abcdef", 15, nil, "f\r\n0123456789abcde\r\n1\r\nf\r\n0\r\n\r\n"},
		{"a", 0, of("A", "b", "c", ""), "1\r\na\r\n0\r\nA: b\r\nc: \r\n\r\n"}, {"", 0, of("A", "b"), "0\r\nA: b\r\n\r\n"},
	} {
		if s, e := chunk.Encode(x.body, x.size, x.trailers); s != x.want || e != api.OK {
			t.Errorf("Encode(%q, %d, %q) = %q, %d", x.body, x.size, x.trailers, s, e)
		}
	}
	body := strings.Repeat("x", 0xabcde)
	if s, e := chunk.Encode(body, 0, nil); s != "abcde\r\n"+body+"\r\n0\r\n\r\n" || e != api.OK {
		t.Errorf("Encode of %d bytes: %.20q, %d", len(body), s, e)
	}
}

// P5.1: trailers that are not valid.
func TestEncodeOfWrongTrailers(t *testing.T) {
	for _, l := range [][]api.Field{of("", "b"), of("a b", "b"), of("a:", "b"), of("a", " b"), of("a", "b\t"), of("a", "b\r\nc: d"), of("a", "\x00"), of("a", "b", "c\n", "d"), of("a\x80", "b", "c", "d")} {
		for _, size := range []int{-1, 0, 1, 100} {
			if s, e := chunk.Encode("body", size, l); s != "" || e != api.ErrBad {
				t.Errorf("Encode with %q = %q, %d", l, s, e)
			}
		}
	}
}

// A want is what a decoder has to tell after it was fed.
type want struct {
	n, status int
	done      bool
	body      string
	trailers  []api.Field
}

// told returns what d tells after it was fed all of s, which is cut before each of the places, in order.
func told(d *chunk.Decoder, s string, cuts ...int) want {
	var w want
	from := 0
	for _, to := range append(cuts, len(s)) {
		n, status := d.Feed(s[from:to])
		w.n += n
		w.status = status
		from = to
	}
	w.done, w.body, w.trailers = d.Done(), d.Body(), d.Trailers()
	return w
}

// same reports whether v and w are equal. Names of fields, too, have to be equal.
func same(v, w want) bool {
	return v.n == w.n && v.status == w.status && v.done == w.done && v.body == w.body && slices.Equal(v.trailers, w.trailers)
}

// check feeds s to a decoder with those limits, in one piece and byte by byte.
func check(t *testing.T, l api.Limits, s string, w want) {
	t.Helper()
	if v := told(chunk.New(l), s); !same(v, w) {
		t.Errorf("%+v, %q: %#v, not %#v", l, s, v, w)
	}
	var cuts []int
	for i := range len(s) {
		cuts = append(cuts, i)
	}
	if v := told(chunk.New(l), s, cuts...); !same(v, w) {
		t.Errorf("%+v, %q byte by byte: %#v, not %#v", l, s, v, w)
	}
}

// P5.2: contents that are complete, with what comes after them, or incomplete.
func TestFeed(t *testing.T) {
	for _, x := range []struct {
		s, body  string
		trailers []api.Field
	}{
		{"3\r\nabc\r\n0\r\n\r\n", "abc", nil}, {"0\r\n\r\n", "", nil}, {"000;x\r\n\r\n", "", nil}, {"0000000000000000\r\n\r\n", "", nil}, {"00000000000000a;x=\"\\\"\"\r\n0123456789\r\n0\r\n\r\n", "0123456789", nil},
		{"1\r\na\r\n2;b\r\n\r\n\r\n0\r\n\r\n", "a\r\n", nil}, {"1\r\n\r\r\n1\r\n\n\r\n0\r\n\r\n", "\r\n", nil}, {"A\r\n0\r\n\r\n0\r\n\r\n\r\n0\r\n\r\n", "0\r\n\r\n0\r\n\r\n", nil}, {"2\r\n\x00\xff\r\n0\r\n\r\n", "\x00\xff", nil},
		{"0\r\na:b\r\n\r\n", "", of("a", "b")}, {"0\r\nA: \tb \r\na:\r\nB:c:d\r\n\r\n", "", of("A", "b", "a", "", "B", "c:d")}, {"3\r\nabc\r\n0\r\nHost: x\r\nContent-Length: 5\r\n\r\n", "abc", of("Host", "x", "Content-Length", "5")},
	} {
		w := want{len(x.s), 0, true, x.body, x.trailers}
		for _, more := range []string{"", "x", "\r\n", "0\r\n\r\n", "\x00"} {
			check(t, wide(), x.s+more, w)
		}
		for i := range len(x.s) { // what is missing may still come
			if v := told(chunk.New(wide()), x.s[:i]); v.n != i || v.status != 0 || v.done || !strings.HasPrefix(x.body, v.body) || len(v.trailers) > len(x.trailers) {
				t.Errorf("%q: %#v", x.s[:i], v)
			}
		}
	}
}

// P5.2: the content and the trailers so far.
func TestSoFar(t *testing.T) {
	const s = "3\r\nabc\r\n2\r\nde\r\n0\r\na:b\r\nc:d\r\n\r\n"
	bodies := map[int]string{4: "a", 5: "ab", 6: "abc", 12: "abcd", 13: "abcde"}
	trailers := map[int][]api.Field{23: of("a", "b"), 28: of("a", "b", "c", "d")}
	d := chunk.New(wide())
	w := want{n: 1}
	for i := range len(s) {
		if body, ok := bodies[i+1]; ok {
			w.body = body
		}
		if l, ok := trailers[i+1]; ok {
			w.trailers = l
		}
		w.done = i == len(s)-1
		if v := told(d, s[i:i+1]); !same(v, w) {
			t.Errorf("after %q: %#v, not %#v", s[:i+1], v, w)
		}
	}
}

// P5.2: the first flaw persists, nothing is consumed after it, and what came before it stays.
func TestFlaws(t *testing.T) {
	deep := of("a", "b")
	for _, x := range []struct {
		s string
		w want
	}{
		{"\n", want{1, 400, false, "", nil}}, {"3\n", want{2, 400, false, "", nil}}, {"3\rx", want{3, 400, false, "", nil}}, {"3\r\r\n", want{3, 400, false, "", nil}}, {"3;x\n\r\n", want{4, 400, false, "", nil}}, {"3;x\ry\r\n", want{5, 400, false, "", nil}}, // lines
		{"\r\n", want{2, 400, false, "", nil}}, {"x\r\n", want{3, 400, false, "", nil}}, {" 3\r\n", want{4, 400, false, "", nil}}, {"3 \r\n", want{4, 400, false, "", nil}}, {"-1\r\n", want{4, 400, false, "", nil}}, {";\r\n", want{3, 400, false, "", nil}}, {"3;\x00\r\n", want{5, 400, false, "", nil}}, {"00000000000000003\r\n", want{19, 400, false, "", nil}}, // sizes
		{"20000000000000\r\n", want{16, 413, false, "", nil}}, {"ffffffffffffffff;\r\n", want{19, 413, false, "", nil}}, {"100001\r\n", want{8, 413, false, "", nil}}, {"1\r\na\r\n100000\r\n", want{14, 413, false, "a", nil}},
		{"1\r\nab\r\n", want{5, 400, false, "a", nil}}, {"1\r\na\n", want{5, 400, false, "a", nil}}, {"1\r\na\r\r\n", want{6, 400, false, "a", nil}}, {"1\r\na\rx", want{6, 400, false, "a", nil}}, {"1\r\na0\r\n\r\n", want{5, 400, false, "a", nil}}, {"3\r\nab\r\n0\r\n\r\n", want{7, 400, false, "ab\r", nil}}, // after a chunk
		{"1\r\na\r\n\r\n", want{8, 400, false, "a", nil}}, {"1\r\na\r\nx\r\n", want{9, 400, false, "a", nil}},
		{"0\r\n\n", want{4, 400, false, "", nil}}, {"0\r\n\r\r", want{5, 400, false, "", nil}}, {"0\r\n\rx", want{5, 400, false, "", nil}}, {"0\r\na:b\n", want{7, 400, false, "", nil}}, {"0\r\na:b\rc\r\n", want{8, 400, false, "", nil}}, // lines of trailers
		{"0\r\na\r\n", want{6, 400, false, "", nil}}, {"0\r\n:b\r\n", want{7, 400, false, "", nil}}, {"0\r\na :b\r\n", want{9, 400, false, "", nil}}, {"0\r\na:\x00\r\n", want{8, 400, false, "", nil}}, {"0\r\na:b\r\n c\r\n", want{12, 400, false, "", deep}}, {"0\r\na:b\r\n \r\n", want{11, 400, false, "", deep}}, {"2\r\nxy\r\n0\r\na:b\r\n0\r\n\r\n", want{18, 400, false, "xy", deep}},
	} {
		check(t, wide(), x.s, x.w)
		check(t, wide(), x.s+"0\r\n\r\n", x.w)
		d := chunk.New(wide())
		told(d, x.s)
		for _, more := range []string{"", "\n", "0\r\n\r\n", "3\r\nabc\r\n0\r\n\r\n", "x"} {
			w := x.w
			w.n = 0
			if v := told(d, more); !same(v, w) {
				t.Errorf("%q after %q: %#v, not %#v", more, x.s, v, w)
			}
		}
	}
}

// P5.2: limits, each at the number that is just enough and at one less, and which of two flaws at one byte is told.
func TestLimits(t *testing.T) {
	with := func(line, head, count, body int) api.Limits {
		return api.Limits{Line: line, Head: head, Count: count, Body: body}
	}
	const big = 1000
	const s = "3;xy\r\nabc\r\n2\r\nde\r\n0\r\na:bc\r\nd:e\r\n\r\n"
	whole := want{len(s), 0, true, "abcde", of("a", "bc", "d", "e")}
	for _, x := range []struct {
		l api.Limits
		s string
		w want
	}{
		{with(6, 13, 2, 5), s, whole}, {with(big, 13, 2, 5), s, whole}, {with(6, big, 2, 5), s, whole}, {with(6, 13, big, 5), s, whole}, {with(6, 13, 2, big), s, whole}, {with(1<<63-1, 1<<63-1, 1<<63-1, 1<<63-1), s, whole},
		{with(5, big, big, big), s, want{5, 400, false, "", nil}}, {with(big, 12, big, big), s, want{34, 431, false, "abcde", of("a", "bc", "d", "e")}}, {with(big, big, 1, big), s, want{32, 431, false, "abcde", of("a", "bc")}}, {with(big, big, big, 4), s, want{14, 413, false, "abc", nil}}, {with(big, big, big, 2), s, want{6, 413, false, "", nil}},
		{with(0, big, big, big), "0\r\n\r\n", want{1, 400, false, "", nil}}, {with(1, big, big, big), "0\r\n\r\n", want{1, 400, false, "", nil}}, {with(2, big, big, big), "0\r\n\r\n", want{2, 400, false, "", nil}}, {with(3, big, big, big), "0\r\n\r\n", want{5, 0, true, "", nil}}, {with(3, big, big, big), "0;\r\n", want{3, 400, false, "", nil}}, {with(1, big, big, big), "\r\n", want{1, 400, false, "", nil}},
		{with(4, big, big, big), "0\r\na:\r\n\r\n", want{9, 0, true, "", of("a", "")}}, {with(4, big, big, big), "0\r\na:b\r\n\r\n", want{7, 400, false, "", nil}}, {with(4, big, big, big), "0\r\nxxxxxxx", want{7, 400, false, "", nil}},
		{with(0, 0, 0, 0), "", want{}}, {with(3, 2, 0, 0), "0\r\n\r\n", want{5, 0, true, "", nil}}, {with(3, 1, 0, 0), "0\r\n\r\n", want{5, 431, false, "", nil}}, {with(3, 0, 0, 0), "0\r\n\r\n", want{4, 431, false, "", nil}}, {with(3, 0, 0, 0), "0\r\n", want{3, 0, false, "", nil}},
		{with(3, 2, 0, 0), "1\r\n", want{3, 413, false, "", nil}}, {with(3, 2, 0, 1), "1\r\na\r\n0\r\n\r\n", want{11, 0, true, "a", nil}}, {with(3, 2, 0, 1), "1\r\na\r\n1\r\n", want{9, 413, false, "a", nil}}, {with(big, big, 0, 0), "0\r\na:b\r\n", want{8, 431, false, "", nil}},
		{with(big, big, big, big), "3e8\r\n", want{5, 0, false, "", nil}}, {with(big, big, big, big), "3e9\r\n", want{5, 413, false, "", nil}}, {with(big, big, big, 1<<63-1), "20000000000000\r\n", want{16, 413, false, "", nil}}, {with(big, big, big, 1<<63-1), "1\r\na\r\n1fffffffffffff\r\n", want{22, 0, false, "a", nil}},
		{with(-1, big, big, big), "0\r\n\r\n", want{1, 400, false, "", nil}}, {with(big, -1, big, big), "0\r\n\r\n", want{4, 431, false, "", nil}}, {with(big, big, -1, big), "0\r\na:b\r\n", want{8, 431, false, "", nil}}, {with(big, big, -1, big), "0\r\n\r\n", want{5, 0, true, "", nil}}, {with(big, big, big, -1), "0\r\n\r\n", want{5, 0, true, "", nil}}, {with(big, big, big, -1), "1\r\n", want{3, 413, false, "", nil}}, {with(-1<<63, -1<<63, -1<<63, -1<<63), "0", want{1, 400, false, "", nil}},
		// Two flaws at one byte: a line's come before 431 for too many bytes, that before those of its content, and there a field that is none before one too many.
		{with(4, 3, big, big), "0\r\nabcd", want{7, 400, false, "", nil}}, {with(5, 3, big, big), "0\r\nabcd", want{7, 431, false, "", nil}}, {with(big, 3, big, big), "0\r\nabc\n", want{7, 400, false, "", nil}}, {with(big, 3, big, big), "0\r\nab\rc", want{7, 400, false, "", nil}}, {with(big, 3, big, big), "0\r\nabc\r", want{7, 431, false, "", nil}},
		{with(big, 3, big, big), "0\r\nab\r\n", want{7, 431, false, "", nil}}, {with(big, 4, big, big), "0\r\nab\r\n", want{7, 400, false, "", nil}}, {with(big, 4, 0, big), "0\r\na:b\r\n", want{8, 431, false, "", nil}}, {with(big, big, 0, big), "0\r\nab\r\n", want{7, 400, false, "", nil}}, {with(big, big, 1, big), "0\r\na:b\r\n:b\r\n", want{12, 400, false, "", of("a", "b")}}, {with(big, 2, 0, 0), "0\r\n\n", want{4, 400, false, "", nil}}, {with(big, 0, 0, 0), "0\r\n\n", want{4, 400, false, "", nil}}, {with(1, 0, 0, 0), "x", want{1, 400, false, "", nil}},
		{with(3, big, big, 0), "x\r\n", want{3, 400, false, "", nil}}, {with(3, 0, big, 0), "1\r\n", want{3, 413, false, "", nil}},
	} {
		check(t, x.l, x.s, x.w)
	}
}

// P5.2: decoders that New did not return.
func TestDecodersThatAreNone(t *testing.T) {
	d, ended := chunk.New(wide()), chunk.New(wide())
	told(d, "3\r\nab")
	told(ended, "1\r\na\r\n0\r\nA:b\r\n\r\n")
	copied, done := *d, *ended
	for i, none := range []*chunk.Decoder{nil, {}, new(chunk.Decoder), &copied, &done} {
		for _, s := range []string{"", "c\r\n0\r\n\r\n", "0\r\n\r\n", "x"} {
			if v := told(none, s); !same(v, want{status: 400}) {
				t.Errorf("decoder %d, %q: %#v", i, s, v)
			}
		}
	}
	if v, w := told(d, "c\r\n0\r\nA:b\r\n\r\n"), (want{13, 0, true, "abc", of("A", "b")}); !same(v, w) {
		t.Errorf("the decoder itself: %#v, not %#v", v, w)
	}
}

// P5.2: decoders have nothing in common.
func TestDecodersAreApart(t *testing.T) {
	a, b := chunk.New(wide()), chunk.New(api.Limits{Line: 10, Body: 2})
	told(a, "3\r\na")
	if v := told(b, "2\r\nxy\r\n1\r\n"); !same(v, want{10, 413, false, "xy", nil}) {
		t.Errorf("%#v", v)
	}
	if v := told(a, "bc\r\n0\r\n\r\n"); !same(v, want{9, 0, true, "abc", nil}) {
		t.Errorf("%#v", v)
	}
}

// P5.3: what Encode returns is decoded to the same, wherever it is cut.
func TestDecodeOfEncode(t *testing.T) {
	long := strings.Repeat("0123456789abcde\r\n", 20)
	for _, body := range []string{"", "a", "\r", "\n", "\r\n", "abc", "0\r\n\r\n", "3\r\nabc\r\n0\r\n\r\n", "\x00\xff\r\n\r\n;", long} {
		for _, size := range []int{-1, 0, 1, 2, 3, 15, 16, 17, 255, 256, 1 << 40} {
			for _, l := range [][]api.Field{nil, of("A", "b"), of("Host", "", "host", "x: y", "X", "\"a\tb\xff\""), of("!#$%&'*+-.^_`|~", "a  b", "0", "0", "0", "0")} {
				s, e := chunk.Encode(body, size, l)
				if e != api.OK {
					t.Fatal(e)
				}
				w := want{len(s), 0, true, body, l}
				check(t, wide(), s, w)
				check(t, wide(), s+"0\r\n\r\n", w)
				lines, _ := field.Bytes(l)
				exact := api.Limits{Line: max(3, len(strconv.FormatInt(int64(len(body)), 16))+2, len(lines)), Head: len(lines) + 2, Count: len(l), Body: len(body)}
				check(t, exact, s, w)
				for i := 0; i < len(s); i += max(1, len(s)/50) {
					for j := i; j < len(s); j += max(1, len(s)/20) {
						if v := told(chunk.New(wide()), s, i, j); !same(v, w) {
							t.Fatalf("%q cut at %d and %d: %#v, not %#v", s, i, j, v, w)
						}
					}
				}
			}
		}
	}
}
