package field_test

import (
	"slices"
	"strings"
	"testing"

	"halfwayhouse/api"
	"halfwayhouse/field"
	"halfwayhouse/token"
)

// of makes a list of names and values in turn.
func of(texts ...string) []api.Field {
	var l []api.Field
	for i := 0; i < len(texts); i += 2 {
		l = append(l, api.Field{Name: texts[i], Value: texts[i+1]})
	}
	return l
}

// texts returns every string of at most most bytes of the alphabet.
func texts(alphabet string, most int) []string {
	all := []string{""}
	for level := all; most > 0; most-- {
		var next []string
		for _, s := range level {
			for i := range len(alphabet) {
				next = append(next, s+alphabet[i:i+1])
			}
		}
		all = append(all, next...)
		level = next
	}
	return all
}

// lists calls f with every list of at most three fields of a few names, among them such as are not valid, whose values are all different.
func lists(f func(l []api.Field)) {
	names := []string{"", "a", "A", "b", "a:", "\xc0", "\xe0"}
	level := [][]api.Field{nil}
	f(nil)
	for _, value := range []string{"1, x", "", "\",3\r"} {
		var next [][]api.Field
		for _, l := range level {
			for _, name := range names {
				next = append(next, append(slices.Clone(l), api.Field{Name: name, Value: value}))
				f(next[len(next)-1])
			}
		}
		level = next
	}
}

var asked = []string{"", "a", "A", "b", "B", "c", "A:", "a ", "\xc0", "\xe0"}

// P2.1: which fields are valid.
func TestCheck(t *testing.T) {
	for _, f := range of("a", "", "a", "b", "Content-Length", "5", "!#$%&'*+-.^_`|~09", "b c\td", "a", `"b", c`, "a", ":", "a", "b:c", "a", "\x80\xff", "a", "é") {
		if e := field.Check(f); e != api.OK {
			t.Errorf("Check(%q) = %d", f, e)
		}
	}
	for _, f := range of(
		"", "", "", "b", " ", "b", "a ", "b", " a", "b", "a\t", "b", "a b", "b", "a:", "b", ":", "b", "a,b", "c", "(a)", "b", "é", "b", "\x80", "b", "a\r", "b", "a\x00", "b",
		"a", " ", "a", "\t", "a", " b", "a", "b ", "a", "\tb", "a", "b\t", "a", " b ", "a", "b \t ",
		"a", "\r", "a", "\n", "a", "b\r\n", "a", "b\r\nc: d", "a", "b\nc", "a", "\x00", "a", "b\x00c", "a", "\x7f", "a", "b\x1f", "a", "\vb", "a", "b\f",
		"a:", " ",
	) {
		if e := field.Check(f); e != api.ErrBad {
			t.Errorf("Check(%q) = %d", f, e)
		}
	}
}

// Each byte in a name and in a value, by the terms of layer 1.
func TestCheckOfEveryByte(t *testing.T) {
	for i := range 256 {
		c := string([]byte{byte(i)})
		for _, x := range []struct {
			f     api.Field
			valid bool
		}{
			{api.Field{Name: c, Value: "x"}, token.Tchar(byte(i))},
			{api.Field{Name: "a" + c, Value: "x"}, token.Tchar(byte(i))},
			{api.Field{Name: c + "a", Value: "x"}, token.Tchar(byte(i))},
			{api.Field{Name: "a", Value: "x" + c + "y"}, token.Char(byte(i))},
			{api.Field{Name: "a", Value: c}, token.Char(byte(i)) && i != ' ' && i != '\t'},
			{api.Field{Name: "a", Value: c + "x"}, token.Char(byte(i)) && i != ' ' && i != '\t'},
			{api.Field{Name: "a", Value: "x" + c}, token.Char(byte(i)) && i != ' ' && i != '\t'},
		} {
			want := api.OK
			if !x.valid {
				want = api.ErrBad
			}
			if e := field.Check(x.f); e != want {
				t.Errorf("Check(%q) = %d", x.f, e)
			}
		}
	}
}

// P2.1: field lines.
func TestLine(t *testing.T) {
	for _, x := range [][3]string{
		{"A:  b ", "A", "b"}, {"A:b", "A", "b"}, {"A:", "A", ""}, {"A: \t ", "A", ""}, {"A: b c\td\t", "A", "b c\td"},
		{"A:b:c", "A", "b:c"}, {"A::", "A", ":"}, {"A: : b", "A", ": b"}, {"Host: a.b:80", "Host", "a.b:80"},
		{"aB-c: Dd", "aB-c", "Dd"}, {"A:\xff\x80", "A", "\xff\x80"}, {"A: \u00a0", "A", "\u00a0"}, {`A: "b`, "A", `"b`},
	} {
		if f, e := field.Line(x[0]); e != api.OK || f.Name != x[1] || f.Value != x[2] {
			t.Errorf("Line(%q) = %q, %d", x[0], f, e)
		}
	}
	for _, s := range []string{
		"", "A", "A b", "A=b", " ", // no colon
		":", ": b", ":b", "::", "A : b", "A\t: b", " A: b", "\tA: b", "A B: c", "A,B: c", "\"A\": b", "A\x00: b", "É: b", "(A):b", // no name
		"A: b\r", "A: b\n", "A: b\r\n", "A:\r b", "A: \r", "A: b\nC: d", "A: b\x00", "A:\x00", "A: b\x7fc", "A: \v", "A: \x1f",
		"A\r\n: b", "A B: \x00",
	} {
		if f, e := field.Line(s); e != api.ErrBad || f != (api.Field{}) {
			t.Errorf("Line(%q) = %q, %d", s, f, e)
		}
	}
}

// slowLine is the promise, word by word.
func slowLine(s string) (api.Field, bool) {
	colon := strings.IndexByte(s, ':')
	if colon < 0 || !token.Token(s[:colon]) {
		return api.Field{}, false
	}
	for _, c := range []byte(s[colon+1:]) {
		if !token.Char(c) {
			return api.Field{}, false
		}
	}
	return api.Field{Name: s[:colon], Value: token.Trim(s[colon+1:])}, true
}

func TestLineOfAllShortTexts(t *testing.T) {
	for _, s := range texts("a: \t\r\xff", 6) {
		want, ok := slowLine(s)
		f, e := field.Line(s)
		if f != want || ok && e != api.OK || !ok && e != api.ErrBad {
			t.Fatalf("Line(%q) = %q, %d, want %q, %v", s, f, e, want, ok)
		}
	}
}

// P2.1: the bytes of a list.
func TestBytes(t *testing.T) {
	for _, x := range []struct {
		l []api.Field
		s string
	}{
		{nil, ""}, {[]api.Field{}, ""},
		{of("A", "b"), "A: b\r\n"}, {of("A", ""), "A: \r\n"}, {of("A", "b", "a", "c", "B", ":"), "A: b\r\na: c\r\nB: :\r\n"}, {of("A", "\xff \t\x80"), "A: \xff \t\x80\r\n"},
	} {
		if s, e := field.Bytes(x.l); s != x.s || e != api.OK {
			t.Errorf("Bytes(%q) = %q, %d", x.l, s, e)
		}
	}
	for _, wrong := range of("", "b", "A ", "b", "A:", "b", "A", " b", "A", "b ", "A", "b\r\nC: d", "A", "\x00") {
		good := of("X", "y")[0]
		for _, l := range [][]api.Field{{wrong}, {wrong, good}, {good, wrong}, {good, wrong, good}, {wrong, wrong}} {
			if s, e := field.Bytes(l); s != "" || e != api.ErrBad {
				t.Errorf("Bytes(%q) = %q, %d", l, s, e)
			}
		}
	}
}

// P2.2: what is found by a name.
func TestAllGetList(t *testing.T) {
	l := of("a", "1", "B", "2, 3", "A", "", "b", ` "4,5",, 6 `, "a ", "7", "", "8", "c", "", "d", " , ,", "e", `"1, 2`, "E", `3", 4`, "f", "\r\n, \x00")
	for _, x := range []struct {
		name   string
		values []string
		joined string
		parts  []string
	}{
		{"a", []string{"1", ""}, "1, ", []string{"1"}},
		{"A", []string{"1", ""}, "1, ", []string{"1"}},
		{"b", []string{"2, 3", ` "4,5",, 6 `}, `2, 3,  "4,5",, 6 `, []string{"2", "3", `"4,5"`, "6"}},
		{"a ", []string{"7"}, "7", []string{"7"}},
		{"", []string{"8"}, "8", []string{"8"}},
		{"c", []string{""}, "", nil},                                                  // there is one, but it is empty
		{"D", []string{" , ,"}, " , ,", nil},                                          // there is one, but it has no parts
		{"e", []string{`"1, 2`, `3", 4`}, `"1, 2, 3", 4`, []string{`"1, 2`, `3", 4`}}, // a quoted string does not go on in the next value
		{"F", []string{"\r\n, \x00"}, "\r\n, \x00", []string{"\r\n", "\x00"}},
		{"x", nil, "", nil}, {"ab", nil, "", nil}, {" a", nil, "", nil},
	} {
		if v := field.All(l, x.name); !slices.Equal(v, x.values) {
			t.Errorf("All(%q) = %q", x.name, v)
		}
		if s, there := field.Get(l, x.name); s != x.joined || there != (len(x.values) > 0) {
			t.Errorf("Get(%q) = %q, %v", x.name, s, there)
		}
		if p := field.List(l, x.name); !slices.Equal(p, x.parts) {
			t.Errorf("List(%q) = %q", x.name, p)
		}
	}
	if s, there := field.Get(nil, ""); s != "" || there || field.All(nil, "a") != nil || field.List(nil, "a") != nil {
		t.Errorf("of no fields: %q, %v", s, there)
	}
}

// P2.2: setting.
func TestSet(t *testing.T) {
	for _, x := range []struct {
		l           []api.Field
		name, value string
		want        []api.Field
	}{
		{nil, "a", "1", of("a", "1")},
		{nil, "", "", of("", "")},
		{of("a", "1"), "a", "2", of("a", "2")},
		{of("A", "1"), "a", "2", of("A", "2")}, // the name stays as it stands there
		{of("A", "1"), "a", "", of("A", "")},
		{of("b", "1"), "A", "2", of("b", "1", "A", "2")},
		{of("b", "1", "A", "2", "c", "3", "a", "4", "b", "5", "A", "6"), "a", "x", of("b", "1", "A", "x", "c", "3", "b", "5")},
		{of("a", "1", "a", "1", "a", "1"), "A", "1", of("a", "1")},
		{of("a", "1"), "a:", " \r\n", of("a", "1", "a:", " \r\n")}, // not valid
		{of("\xc0", "1"), "\xe0", "2", of("\xc0", "1", "\xe0", "2")},
		{of("a ", "1", "a", "2"), "a", "3", of("a ", "1", "a", "3")},
	} {
		if got := field.Set(x.l, x.name, x.value); !slices.Equal(got, x.want) {
			t.Errorf("Set(%q, %q, %q) = %q", x.l, x.name, x.value, got)
		}
	}
}

// P2.2: removal.
func TestDel(t *testing.T) {
	for _, x := range []struct {
		l    []api.Field
		name string
		want []api.Field
	}{
		{nil, "a", nil}, {of("a", "1"), "a", nil}, {of("a", "1", "A", "2"), "A", nil}, {of("a", "1"), "b", of("a", "1")}, {of("a", "1"), "", of("a", "1")},
		{of("b", "1", "A", "2", "c", "3", "a", "4", "b", "5"), "a", of("b", "1", "c", "3", "b", "5")},
		{of("a ", "1", "a", "2", "", "3"), "", of("a ", "1", "a", "2")},
		{of("\xc0", "1", "\xe0", "2"), "\xe0", of("\xc0", "1")},
	} {
		if got := field.Del(x.l, x.name); !slices.Equal(got, x.want) {
			t.Errorf("Del(%q, %q) = %q", x.l, x.name, got)
		}
	}
}

// The promises, by a plain loop, for all short lists and several names.
func TestByNameOfAllShortLists(t *testing.T) {
	lists(func(l []api.Field) {
		for _, name := range asked {
			var values, parts []string
			var rest, set []api.Field
			for _, f := range l {
				if token.Lower(f.Name) != token.Lower(name) {
					rest, set = append(rest, f), append(set, f)
					continue
				}
				if values == nil {
					set = append(set, api.Field{Name: f.Name, Value: "new"})
				}
				values, parts = append(values, f.Value), append(parts, token.Split(f.Value)...)
			}
			if values == nil {
				set = append(set, api.Field{Name: name, Value: "new"})
			}
			joined, there := field.Get(l, name)
			if !slices.Equal(field.All(l, name), values) || !slices.Equal(field.List(l, name), parts) || joined != strings.Join(values, ", ") || there != (values != nil) {
				t.Fatalf("All, List or Get of %q, %q", l, name)
			}
			if !slices.Equal(field.Del(l, name), rest) || !slices.Equal(field.Set(l, name, "new"), set) {
				t.Fatalf("Del or Set of %q, %q: %q, %q", l, name, field.Del(l, name), field.Set(l, name, "new"))
			}
		}
	})
}

// P2.2: which lists are the same.
func TestSame(t *testing.T) {
	for _, x := range []struct {
		a, b []api.Field
		same bool
	}{
		{nil, nil, true}, {nil, []api.Field{}, true}, {[]api.Field{}, nil, true},
		{of("a", "b"), of("A", "b"), true}, {of("", ""), of("", ""), true}, {of("A:", " \r"), of("a:", " \r"), true},
		{of("a", "1", "B", "2"), of("A", "1", "b", "2"), true},
		{of("a", "b"), nil, false}, {nil, of("", ""), false}, {of("a", "1"), of("a", "1", "a", "1"), false}, {of("a", "1", "b", "2"), of("a", "1"), false},
		{of("a", "b"), of("a", "B"), false}, {of("a", "b"), of("a", "b "), false}, {of("a", "b"), of("b", "a"), false}, {of("a", "b"), of("c", "b"), false},
		{of("a", "1", "b", "2"), of("b", "2", "a", "1"), false}, {of("a", "1, 2"), of("a", "1", "a", "2"), false},
		{of("a", "1", "b", "2"), of("a", "1", "b", "3"), false}, {of("\xc0", ""), of("\xe0", ""), false}, {of("k", ""), of("\u212a", ""), false},
	} {
		if field.Same(x.a, x.b) != x.same {
			t.Errorf("Same(%q, %q) = %v", x.a, x.b, !x.same)
		}
	}
}

// P2.3: Line of each line of Bytes is the field that it was made of.
func TestLineOfBytes(t *testing.T) {
	var l []api.Field
	for _, name := range texts("aB!:", 3) {
		for _, value := range texts("a: \t\",\xff\r", 3) {
			if f := (api.Field{Name: name, Value: value}); field.Check(f) == api.OK {
				l = append(l, f)
			}
		}
	}
	s, e := field.Bytes(l)
	lines := strings.SplitAfter(s, "\r\n")
	if e != api.OK || len(l) < 1000 || len(lines) != len(l)+1 || lines[len(l)] != "" {
		t.Fatalf("Bytes of %d fields: %d lines, %d", len(l), len(lines), e)
	}
	for i, f := range l {
		if got, e := field.Line(strings.TrimSuffix(lines[i], "\r\n")); got != f || e != api.OK {
			t.Fatalf("Line(%q) = %q, %d, want %q", lines[i], got, e, f)
		}
	}
}

// What Line returns is valid, and its bytes are a line that Line takes for the same field.
func TestBytesOfLine(t *testing.T) {
	for _, s := range texts("aB: \t\xff", 5) {
		f, e := field.Line(s)
		if e != api.OK {
			continue
		}
		line, e := field.Bytes([]api.Field{f})
		again, d := field.Line(strings.TrimSuffix(line, "\r\n"))
		if e != api.OK || d != api.OK || again != f {
			t.Fatalf("%q: %q, %d, %q, %d", s, line, e, again, d)
		}
	}
}

func TestLongFields(t *testing.T) {
	f := api.Field{Name: strings.Repeat("N", 1<<16), Value: strings.Repeat("v, ", 1<<18) + "v"}
	s, e := field.Bytes([]api.Field{f})
	if got, d := field.Line(strings.TrimSuffix(s, "\r\n")); e != api.OK || d != api.OK || got != f {
		t.Errorf("%d, %d", e, d)
	}
	if n := len(field.List([]api.Field{f}, token.Lower(f.Name))); n != 1<<18+1 {
		t.Errorf("%d parts", n)
	}
}
