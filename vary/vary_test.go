package vary_test

import (
	"slices"
	"strconv"
	"strings"
	"testing"

	"halfwayhouse/api"
	"halfwayhouse/vary"
)

// of makes a list of names and values in turn.
func of(texts ...string) []api.Field {
	var l []api.Field
	for i := 0; i < len(texts); i += 2 {
		l = append(l, api.Field{Name: texts[i], Value: texts[i+1]})
	}
	return l
}

// P12.1: the names of Vary.
func TestNames(t *testing.T) {
	for _, x := range []struct {
		l     []api.Field
		names []string
		star  bool
	}{
		{of("Vary", "B, a, b"), []string{"a", "b"}, false},
		{nil, nil, false}, {[]api.Field{}, nil, false}, {of("A", "1"), nil, false}, {of("Vary", ""), nil, false}, {of("Vary", " ,\t, ,"), nil, false},
		{of("Vary", "Accept"), []string{"accept"}, false}, {of("vARY", " ,Accept\t,,"), []string{"accept"}, false},
		{of("Vary", "c", "vary", "B, a", "VARY", "b,C"), []string{"a", "b", "c"}, false}, {of("Vary", "", "X", "x", "Vary", "a"), []string{"a"}, false},
		{of("Vary", "a, a", "Vary", "A, a"), []string{"a"}, false}, {of("Vary", "a, b, a, c, B, a, C"), []string{"a", "b", "c"}, false},
		// The order is that of the bytes of the lowercase forms.
		{of("Vary", "Zz, a, Za, z, zz0, zz-"), []string{"a", "z", "za", "zz", "zz-", "zz0"}, false}, {of("Vary", "b, _, B, ~, 1, A, -, a1, a-"), []string{"-", "1", "_", "a", "a-", "a1", "b", "~"}, false},
		{of("Vary", "aa, a, aaa, "), []string{"a", "aa", "aaa"}, false}, {of("Vary", "\xff, z, \x80, É, é"), []string{"z", "\x80", "É", "é", "\xff"}, false},
		// A star anywhere.
		{of("Vary", "*"), nil, true}, {of("vary", " ,*\t,"), nil, true}, {of("Vary", "a, *"), nil, true}, {of("Vary", "*, a"), nil, true}, {of("Vary", "a, *, b"), nil, true}, {of("Vary", "*, *"), nil, true},
		{of("Vary", "a", "Vary", "*"), nil, true}, {of("Vary", "*", "Vary", "a"), nil, true}, {of("Vary", "a", "X", "", "VARY", "b, *", "Vary", "c"), nil, true}, {of("Vary", "", "Vary", "*"), nil, true},
		// A star that is no part.
		{of("Vary", "**"), []string{"**"}, false}, {of("Vary", "a*, *b, c"), []string{"*b", "a*", "c"}, false}, {of("Vary", "* a"), []string{"* a"}, false}, {of("Vary", `"*"`), []string{`"*"`}, false}, {of("Vary", `"a,*,b"`), []string{`"a,*,b"`}, false},
		{of("Vary", `b, "x, *`), []string{`"x, *`, "b"}, false}, {of("Vary", `"x`, "Vary", "*"), nil, true}, // what is left open ends with its value
		{of("X", "*", "Vary", "a"), []string{"a"}, false}, {of("Vary ", "*", "Var", "*", "Varyy", "*", "", "*", "Accept", "*"), nil, false},
		// Parts that are no names.
		{of("Vary", `"B,A"`), []string{`"b,a"`}, false}, {of("Vary", "B  C, \x00, a:"), []string{"\x00", "a:", "b  c"}, false}, {of("Vary", "\n*"), []string{"\n*"}, false},
	} {
		names, star := vary.Names(x.l)
		if !slices.Equal(names, x.names) || star != x.star {
			t.Errorf("Names(%q) = %q, %v, want %q, %v", x.l, names, star, x.names, x.star)
		}
	}
}

// P12.1: many names, from the last one to the first, each twice.
func TestNamesOfManyParts(t *testing.T) {
	const most = 5000
	var parts, want []string
	for i := range most {
		parts = append(parts, "N"+strconv.Itoa(2*most-i), "n"+strconv.Itoa(2*most-i))
		want = append(want, "n"+strconv.Itoa(most+1+i))
	}
	slices.Sort(want)
	if names, star := vary.Names(of("Vary", strings.Join(parts, ","))); star || !slices.Equal(names, want) {
		t.Errorf("%d names, %v", len(names), star)
	}
	if names, star := vary.Names(of("Vary", strings.Join(append(parts, "*"), ","))); !star || len(names) > 0 {
		t.Errorf("%d names, %v", len(names), star)
	}
}

// P12.1: what a request has for a name.
func TestValue(t *testing.T) {
	for _, x := range []struct {
		l          []api.Field
		name, want string
	}{
		{nil, "a", "-"}, {nil, "", "-"}, {[]api.Field{}, "a", "-"}, {of("B", "1"), "a", "-"}, {of("A ", "1", "AA", "2", "", "3"), "a", "-"},
		{of("A", "1"), "a", "+1"}, {of("a", "1"), "A", "+1"}, {of("accept-ENCODING", "gzip"), "Accept-Encoding", "+gzip"}, {of("", "1"), "", "+1"}, {of("*", "1"), "*", "+1"},
		{of("A", "X y"), "a", "+X y"}, {of("A", "-"), "a", "+-"}, {of("A", "+"), "a", "++"}, // the case of a value counts
		// A field that is empty is there.
		{of("A", ""), "a", "+"}, {of("A", "", "a", ""), "a", "+, "}, {of("A", "", "a", "1"), "a", "+, 1"}, {of("A", "1", "a", ""), "a", "+1, "},
		// Several of them, in order.
		{of("A", "1", "a", "2"), "a", "+1, 2"}, {of("A", "2", "B", "x", "a", "1", "A", "2"), "a", "+2, 1, 2"}, {of("A", "1,2", "A", "3,,4"), "a", "+1,2, 3,,4"}, {of("A", "1, 2"), "a", "+1, 2"}, {of("A", "1,\t 2"), "a", "+1, 2"},
		// Runs of white space.
		{of("A", "b c"), "a", "+b c"}, {of("A", "b  c"), "a", "+b c"}, {of("A", "b\tc"), "a", "+b c"}, {of("A", "b\t\tc"), "a", "+b c"}, {of("A", "b \t c   d\t"), "a", "+b c d "}, {of("A", "b "+strings.Repeat("\t ", 1000)+"c"), "a", "+b c"},
		{of("A", " b"), "a", "+ b"}, {of("A", "b "), "a", "+b "}, {of("A", "\t b\t "), "a", "+ b "}, {of("A", " "), "a", "+ "}, {of("A", "\t"), "a", "+ "}, {of("A", " \t \t"), "a", "+ "}, {of("A", " ", "A", "\t\t", "A", "b"), "a", "+ ,  , b"},
		{of("A", ". ."), "a", "+. ."}, {of("A", "."), "a", "+."}, {of("A", " . "), "a", "+ . "}, {of("A", ".."), "a", "+.."},
		{of("A", `"b  c"`), "a", `+"b c"`}, {of("A", "b , c"), "a", "+b , c"}, // also in quotes; a comma is nothing special
		// Nothing else is white space.
		{of("A", "b\n\nc"), "a", "+b\n\nc"}, {of("A", "\r\n\v\f\x00"), "a", "+\r\n\v\f\x00"}, {of("A", "b \n c"), "a", "+b \n c"}, {of("A", "b\u00a0\u00a0c"), "a", "+b\u00a0\u00a0c"}, {of("A", "\u2003\u2028\u0085\u3000"), "a", "+\u2003\u2028\u0085\u3000"}, {of("A", "\x85\xa0"), "a", "+\x85\xa0"},
		// Bytes that are no runes stay as they are.
		{of("A", "\xff\xff"), "a", "+\xff\xff"}, {of("A", "\xe2\x80 \t\xc2\t"), "a", "+\xe2\x80 \xc2 "}, {of("A", "\ufffd\xff"), "a", "+\ufffd\xff"}, {of("\xff", "1"), "\xff", "+1"}, {of("\xff", "1"), "\xfe", "-"},
		// Names that are alike in Unicode only.
		{of("\u212a", "1"), "k", "-"}, {of("É", "1"), "é", "-"},
	} {
		if got := vary.Value(x.l, x.name); got != x.want {
			t.Errorf("Value(%q, %q) = %q, want %q", x.l, x.name, got, x.want)
		}
	}
}

// P12.1: each byte in a value, twice in a row and at each place.
func TestValueOfEveryByte(t *testing.T) {
	for i := range 256 {
		c := string([]byte{byte(i)})
		once := c
		if c == "\t" {
			once = " "
		}
		twice := once + once
		if once == " " {
			twice = once
		}
		for _, x := range [][2]string{{c, once}, {c + c, twice}, {"a" + c + "b", "a" + once + "b"}, {"a" + c + c + "b" + c, "a" + twice + "b" + once}, {c + c + "b", twice + "b"}} {
			if got := vary.Value(of("A", x[0]), "a"); got != "+"+x[1] {
				t.Errorf("Value of %q = %q", x[0], got)
			}
		}
	}
}

// P12.1: which requests match.
func TestMatch(t *testing.T) {
	for _, x := range []struct {
		names []string
		a, b  []api.Field
		want  bool
	}{
		{nil, nil, nil, true}, {[]string{}, of("A", "1"), of("A", "2"), true}, {[]string{"a"}, nil, nil, true}, {[]string{"a"}, nil, []api.Field{}, true}, {[]string{"a", "b"}, of("C", "1"), of("C", "2"), true},
		{[]string{"a"}, of("A", "1"), of("a", "1"), true}, {[]string{"A"}, of("a", "1"), of("a", "1"), true}, {[]string{"a"}, of("A", "1"), of("A", "2"), false}, {[]string{"a"}, of("A", "x"), of("A", "X"), false},
		{[]string{"a"}, of("A", ""), nil, false}, {[]string{"a"}, nil, of("A", ""), false}, {[]string{"a"}, of("A", "-"), nil, false}, {[]string{"a"}, of("A", ""), of("A", ""), true}, {[]string{"a"}, of("A", ""), of("A", " "), false},
		{[]string{"a"}, of("A", "x  y"), of("A", "x\ty"), true}, {[]string{"a"}, of("A", "x y"), of("A", "xy"), false}, {[]string{"a"}, of("A", " x"), of("A", "x"), false},
		{[]string{"a"}, of("A", "1", "A", "2"), of("A", "1, 2"), true}, {[]string{"a"}, of("A", "1", "A", "2"), of("A", "1,2"), false}, {[]string{"a"}, of("A", "1", "A", "2"), of("A", "2", "A", "1"), false}, {[]string{"a"}, of("A", "1", "A", "1"), of("A", "1"), false},
		// Each of the names counts, the first, the last, and one in between; what has another name does not, nor does the order.
		{[]string{"a", "b", "c"}, of("A", "1", "B", "2", "C", "3"), of("C", "3", "X", "9", "B", "2", "A", "1"), true}, {[]string{"a", "b", "c"}, of("A", "1", "B", "2", "C", "3"), of("A", "9", "B", "2", "C", "3"), false},
		{[]string{"a", "b", "c"}, of("A", "1", "B", "2", "C", "3"), of("A", "1", "B", "9", "C", "3"), false}, {[]string{"a", "b", "c"}, of("A", "1", "B", "2", "C", "3"), of("A", "1", "B", "2", "C", "9"), false}, {[]string{"a", "b", "c"}, of("A", "1", "B", "2", "C", "3"), of("A", "1", "B", "2"), false},
		{[]string{"a", "b"}, of("A", "1", "B", "2"), of("A", "2", "B", "1"), false}, {[]string{"a", "b"}, of("A", "1"), of("B", "1"), false}, {[]string{"a", "a", "A"}, of("A", "1"), of("A", "1"), true}, {[]string{"*"}, of("A", "1"), of("A", "2"), true},
	} {
		if got := vary.Match(x.names, x.a, x.b); got != x.want {
			t.Errorf("Match(%q, %q, %q) = %v", x.names, x.a, x.b, got)
		}
		if got := vary.Match(x.names, x.b, x.a); got != x.want {
			t.Errorf("Match(%q, %q, %q) = %v", x.names, x.b, x.a, got)
		}
	}
}

// P12.2: keys of a request's values.
func TestKey(t *testing.T) {
	for _, x := range []struct {
		names []string
		l     []api.Field
		want  string
	}{
		{nil, nil, ""}, {[]string{}, of("A", "1"), ""}, {[]string{"a"}, nil, "a:1:-\n"}, {[]string{"A"}, of("B", "1"), "a:1:-\n"}, {[]string{""}, nil, ":1:-\n"}, {[]string{""}, of("", "x"), ":2:+x\n"},
		{[]string{"a"}, of("A", ""), "a:1:+\n"}, {[]string{"a"}, of("A", "1"), "a:2:+1\n"}, {[]string{"Accept-ENCODING"}, of("accept-encoding", "GZIP"), "accept-encoding:5:+GZIP\n"},
		{[]string{"a"}, of("A", "12345678"), "a:9:+12345678\n"}, {[]string{"a"}, of("A", "123456789"), "a:10:+123456789\n"}, {[]string{"a"}, of("A", strings.Repeat("x", 999)), "a:1000:+" + strings.Repeat("x", 999) + "\n"},
		{[]string{"a"}, of("A", "1", "b", "2", "a", "3"), "a:5:+1, 3\n"}, {[]string{"a"}, of("A", " x \t\t y"), "a:5:+ x y\n"}, {[]string{"a"}, of("A", "é"), "a:3:+é\n"}, // bytes are counted, after the blanks
		// In the order of the names, each as often as it is there.
		{[]string{"a", "b"}, of("B", "2", "A", "1"), "a:2:+1\nb:2:+2\n"}, {[]string{"b", "a"}, of("B", "2", "A", "1"), "b:2:+2\na:2:+1\n"}, {[]string{"b", "C", "B"}, of("B", "2"), "b:2:+2\nc:1:-\nb:2:+2\n"},
		// Names and values that look like something else.
		{[]string{"a:1:-\nb"}, nil, "a:1:-\nb:1:-\n"}, {[]string{"a", "b"}, of("A", "\nb:1:-"), "a:7:+\nb:1:-\nb:1:-\n"}, {[]string{"*"}, of("A", "1"), "*:1:-\n"}, {[]string{"É\xff"}, nil, "É\xff:1:-\n"},
	} {
		if got := vary.Key(x.names, x.l); got != x.want {
			t.Errorf("Key(%q, %q) = %q, want %q", x.names, x.l, got, x.want)
		}
	}
}

// P12.2: keys of a host and a path.
func TestPrimary(t *testing.T) {
	for _, x := range [][3]string{
		{"", "", " "}, {"a", "/", "a /"}, {"A.EXAMPLE:80", "/X?Y=Z", "a.example:80 /X?Y=Z"}, {"a", "", "a "}, {"", "/a", " /a"}, {"[::FF]", "*", "[::ff] *"},
		{" A ", " B ", " a   B "}, {"É\xffZ", "É\xffZ", "É\xffz É\xffZ"}, {"\u212a", "\n", "\u212a \n"}, {"A@[`{", "A", "a@[`{ A"},
	} {
		if got := vary.Primary(x[0], x[1]); got != x[2] {
			t.Errorf("Primary(%q, %q) = %q", x[0], x[1], got)
		}
	}
	for i := range 256 {
		want := byte(i)
		if i >= 'A' && i <= 'Z' {
			want += 'a' - 'A'
		}
		c := string([]byte{byte(i)})
		if got := vary.Primary(c, c); got != string([]byte{want})+" "+c {
			t.Errorf("Primary of byte %d twice = %q", i, got)
		}
	}
}
