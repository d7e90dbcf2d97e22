package framing_test

import (
	"slices"
	"strconv"
	"strings"
	"testing"

	"halfwayhouse/api"
	"halfwayhouse/framing"
)

const (
	size   = "Content-Length"
	coding = "Transfer-Encoding"
)

// of makes a list of names and values in turn.
func of(texts ...string) []api.Field {
	var l []api.Field
	for i := 0; i < len(texts); i += 2 {
		l = append(l, api.Field{Name: texts[i], Value: texts[i+1]})
	}
	return l
}

// P4.1: the number of Content-Length.
func TestLength(t *testing.T) {
	for _, x := range []struct {
		l     []api.Field
		n     int64
		there bool
	}{
		{nil, 0, false}, {[]api.Field{}, 0, false}, {of("Content", "5"), 0, false}, {of("Content-Lengths", "5", "", "5"), 0, false}, {of(coding, "5"), 0, false},
		{of(size, "5"), 5, true}, {of("content-length", "5"), 5, true}, {of("CONTENT-LENGTH", "5"), 5, true}, {of("a", "1", size, "5", "b", "2"), 5, true},
		{of(size, "0"), 0, true}, {of(size, "00"), 0, true}, {of(size, "0005"), 5, true}, {of(size, "9007199254740991"), api.MaxNumber, true}, {of(size, "0009007199254740991"), api.MaxNumber, true},
		{of(size, "5, 5"), 5, true}, {of(size, "5,5,5"), 5, true}, {of(size, ",5, ,\t5 ,"), 5, true}, {of(size, "0, 00"), 0, true}, {of(size, "5, 05"), 5, true}, {of(size, " 5\t"), 5, true},
		{of(size, "5", "content-Length", "5"), 5, true}, {of(size, "5", "a", "6", size, "5, 005"), 5, true},
		{of(size, "", size, "5"), 5, true}, {of(size, "5", size, ", ,"), 5, true}, // one of the fields names no length, but there is one
	} {
		if n, there, status := framing.Length(x.l); n != x.n || there != x.there || status != 0 {
			t.Errorf("Length(%q) = %d, %v, %d", x.l, n, there, status)
		}
	}
}

// P4.1: Content-Length that names no number, or several.
func TestLengthThatIsRejected(t *testing.T) {
	for _, values := range [][]string{
		{""}, {" "}, {","}, {" ,\t,"}, {"", ""}, // no length
		{"x"}, {"-1"}, {"+5"}, {"5.0"}, {"5 5"}, {"5;"}, {"0x5"}, {"5e0"}, {"\"5\""}, {"\"5"}, {"5\r"}, {"5\x00"}, {"\v5"}, {"٥"}, {"5\xff"}, {"chunked"}, // no number
		{"9007199254740992"}, {"18446744073709551621"}, {"4294967301000000000000"}, {strings.Repeat("9", 1000)}, // too great a number
		{"5, 6"}, {"6, 5"}, {"5, 5, 6"}, {"5, 6, 6"}, {"0, 5"}, {"5, 0"}, {"5, 50"}, {"5", "6"}, {"0", "5"}, {"5", "5", "6"}, {"5, 5", "5, 6"}, {"", "5", "6"}, // several numbers
		{"5, x"}, {"x, 5"}, {"x, x"}, {"5", "x"}, {"x", "5"}, {"0, x"}, {"x, 0"}, {"0", "-0"}, {"0, 9007199254740992"}, {"9007199254740992, 0"}, {"9007199254740992, 9007199254740992"}, {"5, \"5, 5\""},
	} {
		var l []api.Field
		for _, value := range values {
			l = append(l, api.Field{Name: "Content-length", Value: value})
		}
		for _, l := range [][]api.Field{l, append(of("a", "1"), l...), append(l, of("b", "5")...)} {
			if n, there, status := framing.Length(l); n != 0 || !there || status != 400 {
				t.Errorf("Length(%q) = %d, %v, %d", l, n, there, status)
			}
		}
	}
}

// P4.1: Transfer-Encoding.
func TestCoded(t *testing.T) {
	for _, l := range [][]api.Field{nil, {}, of("a", "chunked"), of("Transfer", "chunked", "Transfer-Encodings", "chunked", "TE", "chunked", "", "chunked"), of(size, "5")} {
		if there, status := framing.Coded(l); there || status != 0 {
			t.Errorf("Coded(%q) = %v, %d", l, there, status)
		}
	}
	for _, l := range [][]api.Field{
		of(coding, "chunked"), of("transfer-encoding", "CHUNKED"), of("a", "b", "TRANSFER-ENCODING", "Chunked", "c", "d"), of(coding, " chunked\t"), of(coding, ",chunked, ,"),
		of(coding, "", coding, "chunked"), of(coding, "chunked", "a", "gzip", coding, ","),
	} {
		if there, status := framing.Coded(l); !there || status != 0 {
			t.Errorf("Coded(%q) = %v, %d", l, there, status)
		}
	}
	for _, l := range [][]api.Field{
		of(coding, ""), of(coding, " "), of(coding, ","), of(coding, "", coding, " ,"),
		of(coding, "gzip"), of(coding, "identity"), of(coding, "xchunked"), of(coding, "chunkedx"), of(coding, "chunke"), of(coding, "\"chunked\""), of(coding, "\"chunked"),
		of(coding, "chunked;a=b"), of(coding, "chunked;"), of(coding, "chunked\v"), of(coding, "chunked\x00"), of(coding, "chun\u212aed"), of(coding, "chunked chunked"),
		of(coding, "gzip, chunked"), of(coding, "chunked, gzip"), of(coding, "chunked, chunked"), of(coding, "chunked,identity"),
		of(coding, "gzip", coding, "chunked"), of(coding, "chunked", "transfer-encoding", "gzip"), of(coding, "chunked", coding, "chunked"), of(coding, "chunked", coding, "x", coding, "chunked"),
	} {
		if there, status := framing.Coded(l); !there || status != 501 {
			t.Errorf("Coded(%q) = %v, %d", l, there, status)
		}
	}
}

// P4.2: what has no content, for each status and a few methods. Methods are compared byte by byte.
func TestBare(t *testing.T) {
	for _, method := range []string{"GET", "HEAD", "CONNECT", "POST", "", "head", "Head", "HEAD ", "HEADS", "HEA", "connect", "CONNECTS", "\x00"} {
		for status := -1000; status <= 1500; status++ {
			want := method == "HEAD" || status/100 == 1 && status > 0 || status == 204 || status == 304 || method == "CONNECT" && status/100 == 2 && status > 0
			if framing.Bare(method, status) != want {
				t.Errorf("Bare(%q, %d) = %v", method, status, !want)
			}
		}
		for _, status := range []int{1<<63 - 1, -1 << 63} {
			if framing.Bare(method, status) != (method == "HEAD") {
				t.Errorf("Bare(%q, %d)", method, status)
			}
		}
	}
}

// P4.2: both kinds of messages of version 1.1. A status of 0 stands for a frame.
func TestFrames(t *testing.T) {
	for _, x := range []struct {
		l         []api.Field
		kind      int
		n         int64
		status    int
		otherwise int // the kind for a response, if it is another one
	}{
		{nil, api.FrameNone, 0, 0, api.FrameClose},
		{of("a", "b", "TE", "chunked"), api.FrameNone, 0, 0, api.FrameClose},
		{of(size, "5, 5"), api.FrameLength, 5, 0, 0},
		{of(size, "1"), api.FrameLength, 1, 0, 0},
		{of(size, "9007199254740991"), api.FrameLength, api.MaxNumber, 0, 0},
		{of(size, "0"), api.FrameNone, 0, 0, 0},
		{of(size, "0", size, "00"), api.FrameNone, 0, 0, 0},
		{of(size, ""), 0, 0, 400, 0},
		{of(size, "5, 6"), 0, 0, 400, 0},
		{of(size, "x"), 0, 0, 400, 0},
		{of(coding, "Chunked"), api.FrameChunks, 0, 0, 0},
		{of(coding, "gzip, chunked"), 0, 0, 501, 0},
		{of(coding, ""), 0, 0, 501, 0},
		{of(size, "5", coding, "chunked"), 0, 0, 400, 0},
		{of(coding, "chunked", size, "5"), 0, 0, 400, 0},
		{of(coding, "chunked", size, "0"), 0, 0, 400, 0},
		{of(coding, "chunked", size, ""), 0, 0, 400, 0}, // a field without a length
		{of(coding, "chunked", size, "x"), 0, 0, 400, 0},
		{of(coding, "gzip", size, "5"), 0, 0, 400, 0}, // before 501
		{of(coding, "", size, ""), 0, 0, 400, 0},
	} {
		if f, status := framing.Request(1, x.l); f != (api.Frame{Kind: x.kind, Len: x.n}) || status != x.status {
			t.Errorf("Request(1, %q) = %+v, %d", x.l, f, status)
		}
		if x.otherwise != 0 {
			x.kind = x.otherwise
		}
		if f, status := framing.Response("GET", 200, 1, x.l); f != (api.Frame{Kind: x.kind, Len: x.n}) || status != x.status {
			t.Errorf("Response(GET, 200, 1, %q) = %+v, %d", x.l, f, status)
		}
	}
}

// P4.2: version 1.0 has no codings; otherwise it makes no difference.
func TestFramesOfVersion0(t *testing.T) {
	for _, l := range [][]api.Field{of(coding, "chunked"), of(coding, "gzip"), of(coding, ""), of(coding, "chunked", size, "5")} {
		if f, status := framing.Request(0, l); f != (api.Frame{}) || status != 400 {
			t.Errorf("Request(0, %q) = %+v, %d", l, f, status)
		}
		if f, status := framing.Response("GET", 200, 0, l); f != (api.Frame{}) || status != 400 {
			t.Errorf("Response(GET, 200, 0, %q) = %+v, %d", l, f, status)
		}
	}
	for _, l := range [][]api.Field{nil, of(size, "5"), of(size, "0"), of(size, "x")} {
		f, status := framing.Request(0, l)
		if g, s := framing.Request(1, l); f != g || s != status {
			t.Errorf("Request of %q: %+v, %d and %+v, %d", l, f, status, g, s)
		}
		f, status = framing.Response("GET", 200, 0, l)
		if g, s := framing.Response("GET", 200, 1, l); f != g || s != status {
			t.Errorf("Response of %q: %+v, %d and %+v, %d", l, f, status, g, s)
		}
	}
}

// P4.2: what has no content is not rejected, whatever it contains.
func TestResponseWithoutContent(t *testing.T) {
	for _, l := range [][]api.Field{nil, of(size, "5"), of(size, "x"), of(coding, "chunked"), of(coding, "gzip"), of(coding, "chunked", size, "5")} {
		for minor := range 2 {
			for _, x := range []struct {
				method string
				status int
			}{{"HEAD", 200}, {"HEAD", 500}, {"GET", 100}, {"GET", 199}, {"GET", 204}, {"GET", 304}, {"CONNECT", 200}, {"CONNECT", 299}} {
				if f, status := framing.Response(x.method, x.status, minor, l); f != (api.Frame{Kind: api.FrameNone}) || status != 0 {
					t.Errorf("Response(%s, %d, %d, %q) = %+v, %d", x.method, x.status, minor, l, f, status)
				}
			}
		}
	}
}

// lists calls f with every list of at most three fields of a few values.
func lists(f func(l []api.Field)) {
	fields := of("a", "5")
	for _, value := range []string{"", "0", "00", "5", "05", "6", "5,5", "5,6", "x", "9007199254740992"} {
		fields = append(fields, api.Field{Name: size, Value: value})
	}
	for _, value := range []string{"", "chunked", "CHUNKED", "gzip", "chunked,"} {
		fields = append(fields, api.Field{Name: coding, Value: value})
	}
	level := [][]api.Field{nil}
	f(nil)
	for range 3 {
		var next [][]api.Field
		for _, l := range level {
			for _, further := range fields {
				next = append(next, append(slices.Clone(l), further))
				f(next[len(next)-1])
			}
		}
		level = next
	}
}

// slowLength and slowFrame are the promises, word by word.
func slowLength(l []api.Field) (n int64, there bool, status int) {
	numbers := map[int64]bool{}
	for _, f := range l {
		if f.Name != size {
			continue
		}
		there = true
		for part := range strings.SplitSeq(f.Value, ",") {
			number, err := strconv.ParseInt(part, 10, 64)
			if part != "" && (err != nil || number > api.MaxNumber) {
				return 0, true, 400
			}
			if part != "" {
				numbers[number] = true
				n = number
			}
		}
	}
	if there && len(numbers) != 1 {
		return 0, true, 400
	}
	return n, there, 0
}

func slowCoded(l []api.Field) (there bool, status int) {
	var parts []string
	for _, f := range l {
		if f.Name == coding {
			there = true
			parts = append(parts, strings.FieldsFunc(strings.ToLower(f.Value), func(r rune) bool { return r == ',' })...)
		}
	}
	if there && !slices.Equal(parts, []string{"chunked"}) {
		return true, 501
	}
	return there, 0
}

func slowFrame(minor int, l []api.Field, neither int) (api.Frame, int) {
	n, sized, wrong := slowLength(l)
	coded, unknown := slowCoded(l)
	if coded {
		if minor == 0 || sized {
			return api.Frame{}, 400
		}
		if unknown != 0 {
			return api.Frame{}, unknown
		}
		return api.Frame{Kind: api.FrameChunks}, 0
	}
	if wrong != 0 {
		return api.Frame{}, wrong
	}
	if !sized {
		return api.Frame{Kind: neither}, 0
	}
	if n == 0 {
		return api.Frame{Kind: api.FrameNone}, 0
	}
	return api.Frame{Kind: api.FrameLength, Len: n}, 0
}

func TestAllShortLists(t *testing.T) {
	lists(func(l []api.Field) {
		n, there, status := framing.Length(l)
		if m, want, s := slowLength(l); n != m || there != want || status != s {
			t.Fatalf("Length(%q) = %d, %v, %d, want %d, %v, %d", l, n, there, status, m, want, s)
		}
		there, status = framing.Coded(l)
		if want, s := slowCoded(l); there != want || status != s {
			t.Fatalf("Coded(%q) = %v, %d, want %v, %d", l, there, status, want, s)
		}
		for minor := range 2 {
			f, status := framing.Request(minor, l)
			if g, s := slowFrame(minor, l, api.FrameNone); f != g || status != s {
				t.Fatalf("Request(%d, %q) = %+v, %d, want %+v, %d", minor, l, f, status, g, s)
			}
			f, status = framing.Response("CONNECT", 404, minor, l)
			if g, s := slowFrame(minor, l, api.FrameClose); f != g || status != s {
				t.Fatalf("Response(CONNECT, 404, %d, %q) = %+v, %d, want %+v, %d", minor, l, f, status, g, s)
			}
		}
	})
}

// P4.3: a message that is coded and also has a length is rejected, wherever the two fields stand.
func TestNoMessageHasTwoEnds(t *testing.T) {
	lists(func(l []api.Field) {
		_, sized, _ := framing.Length(l)
		coded, _ := framing.Coded(l)
		if !sized || !coded {
			return
		}
		for minor := range 2 {
			if f, status := framing.Request(minor, l); f != (api.Frame{}) || status != 400 {
				t.Fatalf("Request(%d, %q) = %+v, %d", minor, l, f, status)
			}
			if f, status := framing.Response("GET", 200, minor, l); f != (api.Frame{}) || status != 400 {
				t.Fatalf("Response(GET, 200, %d, %q) = %+v, %d", minor, l, f, status)
			}
		}
	})
}

// A frame goes with status 0 alone, and names a number only if its kind has one.
func TestFramesAndStatuses(t *testing.T) {
	check := func(l []api.Field, f api.Frame, status int) {
		if (f.Kind == 0) != (status != 0) || (f.Len > 0) != (f.Kind == api.FrameLength) || f.Len < 0 {
			t.Fatalf("%q: %+v, %d", l, f, status)
		}
	}
	lists(func(l []api.Field) {
		for _, minor := range []int{-1 << 63, -1, 0, 1, 2, 1<<63 - 1} {
			f, status := framing.Request(minor, l)
			check(l, f, status)
			for _, method := range []string{"GET", "HEAD", "CONNECT", ""} {
				for _, answered := range []int{-1, 0, 100, 200, 204, 304, 404, 1 << 40} {
					f, status := framing.Response(method, answered, minor, l)
					check(l, f, status)
				}
			}
		}
	})
}

// The fields stay as they are, also those behind the end of the list, which are not read either.
func TestFieldsAreNotChanged(t *testing.T) {
	memory := of(size, "5", "a", "b", size, "5", coding, "chunked", size, "6")
	kept := slices.Clone(memory)
	if n, there, status := framing.Length(memory[:3]); n != 5 || !there || status != 0 {
		t.Errorf("Length: %d, %v, %d", n, there, status)
	}
	if there, status := framing.Coded(memory[:3]); there || status != 0 {
		t.Errorf("Coded: %v, %d", there, status)
	}
	if f, status := framing.Request(1, memory[:3]); f != (api.Frame{Kind: api.FrameLength, Len: 5}) || status != 0 {
		t.Errorf("Request: %+v, %d", f, status)
	}
	if f, status := framing.Response("GET", 200, 1, memory[:0]); f != (api.Frame{Kind: api.FrameClose}) || status != 0 {
		t.Errorf("Response: %+v, %d", f, status)
	}
	if !slices.Equal(memory, kept) {
		t.Errorf("%q", memory)
	}
}

func TestManyLengths(t *testing.T) {
	l := of(size, strings.Repeat("5,", 1<<18)+"5")
	if n, there, status := framing.Length(l); n != 5 || !there || status != 0 {
		t.Errorf("%d, %v, %d", n, there, status)
	}
	l[0].Value += "0"
	if n, there, status := framing.Length(l); n != 0 || !there || status != 400 {
		t.Errorf("%d, %v, %d", n, there, status)
	}
}
