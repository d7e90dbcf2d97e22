package hop_test

import (
	"math"
	"slices"
	"strings"
	"testing"

	"halfwayhouse/api"
	"halfwayhouse/field"
	"halfwayhouse/hop"
	"halfwayhouse/token"
)

// of makes a list of names and values in turn.
func of(texts ...string) []api.Field {
	var l []api.Field
	for i := 0; i < len(texts); i += 2 {
		l = append(l, api.Field{Name: texts[i], Value: texts[i+1]})
	}
	return l
}

// lists calls f with every list of at most three fields of a few names and values.
func lists(f func(l []api.Field)) {
	var fields []api.Field
	for _, name := range []string{"Connection", "cONNECTION", "X", "x", "Te", "vIA", "Host", "Content-Length", "expect"} {
		for _, value := range []string{"", "x, Via", `"close", host, x:`, "Close,,KEEP-alive"} {
			fields = append(fields, api.Field{Name: name, Value: value})
		}
	}
	level := [][]api.Field{nil}
	f(nil)
	for range 3 {
		var next [][]api.Field
		for _, l := range level {
			for _, one := range fields {
				next = append(next, append(slices.Clone(l), one))
				f(next[len(next)-1])
			}
		}
		level = next
	}
}

var seven = []string{"Connection", "Keep-Alive", "Proxy-Connection", "TE", "Trailer", "Transfer-Encoding", "Upgrade"}

// P7.1: the seven names, in any case.
func TestHop(t *testing.T) {
	for _, name := range seven {
		for _, s := range []string{name, token.Lower(name), strings.ToUpper(name), strings.ToUpper(name[:1]) + token.Lower(name[1:]), token.Lower(name[:1]) + strings.ToUpper(name[1:])} {
			if !hop.Hop(s) {
				t.Errorf("Hop(%q) = false", s)
			}
		}
	}
	for _, s := range []string{
		"", " ", "T", "E", "TEE", "Trailers", "Upgrades", "Keep Alive", "KeepAlive", "Keep_Alive", "Connections", "Proxy", "ProxyConnection", "close",
		"Host", "Via", "Expect", "Content-Length", "Transfer-Coding", "Content-Encoding", "Cache-Control", "Proxy-Authorization", "Proxy-Authenticate", "HTTP2-Settings",
		"TE:", " TE", "TE ", "TE,", "TE\x00", "Connection, TE", "Te\u0301", "\u212aeep-Alive", "T\u0395", "\uff34\uff25", // look-alikes
		strings.Repeat("TE", 1000),
	} {
		if hop.Hop(s) {
			t.Errorf("Hop(%q) = true", s)
		}
	}
}

// Each byte at each place of the seven names, left out and put in.
func TestHopOfEditedNames(t *testing.T) {
	check := func(s string) {
		if got, want := hop.Hop(s), slices.ContainsFunc(seven, func(name string) bool { return token.Same(s, name) }); got != want {
			t.Errorf("Hop(%q) = %t", s, got)
		}
	}
	for _, name := range seven {
		for i := range len(name) + 1 {
			for c := range 256 {
				between := string([]byte{byte(c)})
				check(name[:i] + between + name[i:])
				if i < len(name) {
					check(name[:i] + between + name[i+1:])
				}
			}
			check(name[:i])
			check(name[i:])
		}
	}
}

// P7.1: which fields are left.
func TestStrip(t *testing.T) {
	for _, x := range []struct{ l, rest []api.Field }{
		{nil, nil}, {[]api.Field{}, nil},
		{of("Connection", "x, close", "X", "1", "Y", "2"), of("Y", "2")}, // the chapter's example
		{of("A", "1", "a", "2", "B", ""), of("A", "1", "a", "2", "B", "")},
		{of("connection", "", "KEEP-ALIVE", "timeout=5", "Proxy-connection", "x", "te", "trailers", "TRAILER", "T", "transfer-encoding", "gzip", "uPGRADE", "h2c"), nil},
		{of("TE", "a", "TE", "b", "X", "c", "TE", "d"), of("X", "c")},
		{of("X", "1", "Connection", "x", "x", "2"), nil},                                                                   // before and after it, all of them
		{of("X", "1", "Y", "2", "Z", "3", "connection", "y", "A", "4", "CONNECTION", "a,X"), of("Z", "3")},                 // in several fields
		{of("X", "1", "Connection", ` , "y" ,x;q, x=1 z`, "Y", "2", "z", "3"), of("X", "1", "Y", "2", "z", "3")},           // parts that are no names
		{of(`"y"`, "1", "y z", "2", "", "3", "Connection", `"y", Y z,,`), of("", "3")},                                     // names that are none, as the parts are
		{of("X", "1", "Connection", `"a, x`, "A", "2", "Connection", `b", y`, "Y", "3"), of("X", "1", "A", "2", "Y", "3")}, // each value is split by itself
		{of("X", "1", "Connection", `"a\", x", y`, "Y", "3"), of("X", "1")},
		{of("X", "1", "Connection", `"a, x`, "connection", "x"), nil},
		{of("X", "1", "Trailer", "x", "TE", "x", "Keep-Alive", "x", "Proxy-Connection", "x", "Upgrade", "x"), of("X", "1")}, // only Connection names fields
		{of("X", "Connection", "Via", "1.1 TE"), of("X", "Connection", "Via", "1.1 TE")},
		{of("Host", "a", "Via", "1.1 p", "Content-Length", "5", "Expect", "100-continue", "Cache-Control", "no-cache"), of("Host", "a", "Via", "1.1 p", "Content-Length", "5", "Expect", "100-continue", "Cache-Control", "no-cache")},
		{of("Host", "a", "Via", "1.1 p", "Content-Length", "5", "Connection", "via,\tHost ,content-length"), nil},
		{of("Connection", "Connection", "X", "1"), of("X", "1")},
		{of("close", "1", "keep-alive", "2", "Connection", "close, Keep-Alive"), nil},
		{of("X\xc0", "1", "X\xe0", "2", "É", "3", "é", "4", "Connection", "x\xc0, é"), of("X\xe0", "2", "É", "3")}, // only the letters A to Z have a lowercase form
	} {
		if got := hop.Strip(x.l); !slices.Equal(got, x.rest) {
			t.Errorf("Strip(%q) = %q, not %q", x.l, got, x.rest)
		}
	}
}

// slowStrip is the promise, word by word.
func slowStrip(l []api.Field) []api.Field {
	var rest []api.Field
	for _, f := range l {
		same := func(name string) bool { return token.Same(f.Name, name) }
		if !slices.ContainsFunc(seven, same) && !slices.ContainsFunc(field.List(l, "connection"), same) {
			rest = append(rest, f)
		}
	}
	return rest
}

func TestStripOfShortLists(t *testing.T) {
	lists(func(l []api.Field) {
		got := hop.Strip(l)
		if want := slowStrip(l); !slices.Equal(got, want) {
			t.Fatalf("Strip(%q) = %q, not %q", l, got, want)
		}
		if again := hop.Strip(got); !slices.Equal(again, got) {
			t.Fatalf("Strip(%q) = %q", got, again)
		}
	})
}

// Many fields of which Connection names many.
func TestStripOfALongList(t *testing.T) {
	var l []api.Field
	var parts []string
	for i := range 100000 {
		name := strings.Repeat("x", i%100) + string(rune('a'+i%26))
		l = append(l, api.Field{Name: name, Value: "1"})
		if name[len(name)-1] != 'z' {
			parts = append(parts, strings.ToUpper(name))
		}
	}
	l = append(l, api.Field{Name: "Connection", Value: strings.Join(parts, ",")})
	rest := hop.Strip(l)
	if len(rest) != 100000/26 {
		t.Errorf("%d fields", len(rest))
	}
	for _, f := range rest {
		if !strings.HasSuffix(f.Name, "z") {
			t.Fatalf("%q", f)
		}
	}
}

// P7.1: what Via is set to.
func TestVia(t *testing.T) {
	for _, x := range []struct {
		l     []api.Field
		minor int
		name  string
		want  []api.Field
	}{
		{nil, 1, "p", of("Via", "1.1 p")},
		{nil, 0, "p", of("Via", "1.0 p")},
		{of("A", "1"), 1, "p", of("A", "1", "Via", "1.1 p")},
		{of("A", "1", "Via", "1.0 a", "B", "2"), 1, "p", of("A", "1", "Via", "1.0 a, 1.1 p", "B", "2")},
		{of("vIA", "1.0 a", "B", "2"), 0, "P", of("vIA", "1.0 a, 1.0 P", "B", "2")},
		{of("via", "1.0 a, 1.1 b", "B", "2", "VIA", "", "Via", "x", "A", "1"), 1, "p", of("via", "1.0 a, 1.1 b, , x, 1.1 p", "B", "2", "A", "1")},
		{of("Via", ""), 1, "p", of("Via", ", 1.1 p")}, // there is such a field
		{of("Via", "", "Via", ""), 1, "p", of("Via", ", , 1.1 p")},
		{of("Via", ` "a`), 1, "p", of("Via", ` "a, 1.1 p`)}, // Values as they are
		{of("Vi", "1", "Via:", "2", "", "3"), 1, "p", of("Vi", "1", "Via:", "2", "", "3", "Via", "1.1 p")},
		{nil, -1, "p", of("Via", "1.-1 p")},
		{nil, 10, "p", of("Via", "1.10 p")},
		{nil, math.MaxInt64, "p", of("Via", "1.9223372036854775807 p")},
		{nil, math.MinInt64, "p", of("Via", "1.-9223372036854775808 p")},
		{nil, 1, "", of("Via", "1.1 ")}, // any name
		{nil, 1, "a b,\r\n\xff", of("Via", "1.1 a b,\r\n\xff")},
		{of("Connection", "via, close", "TE", "x", "Content-Length", "5"), 1, "p", of("Connection", "via, close", "TE", "x", "Content-Length", "5", "Via", "1.1 p")}, // nothing else is changed
	} {
		if got := hop.Via(x.l, x.minor, x.name); !slices.Equal(got, x.want) {
			t.Errorf("Via(%q, %d, %q) = %q, not %q", x.l, x.minor, x.name, got, x.want)
		}
	}
}

// P7.1: the promise, word by word.
func TestViaOfShortLists(t *testing.T) {
	lists(func(l []api.Field) {
		values := field.All(l, "via")
		want := field.Set(l, "Via", strings.Join(append(values, "1.0 x/y"), ", "))
		if got := hop.Via(l, 0, "x/y"); !slices.Equal(got, want) {
			t.Fatalf("Via(%q) = %q, not %q", l, got, want)
		}
	})
}
