package token_test

import (
	"slices"
	"strings"
	"testing"
	"unsafe"

	"halfwayhouse/token"
)

const tchars = "ABCDEFGHIJKLMNOPQRSTUVWXYZabcdefghijklmnopqrstuvwxyz0123456789!#$%&'*+-.^_`|~"

// P1.1: every byte, by the document's own list.
func TestTcharAndCharOfEveryByte(t *testing.T) {
	for i := range 256 {
		c := byte(i)
		if got, want := token.Tchar(c), strings.IndexByte(tchars, c) >= 0; got != want {
			t.Errorf("Tchar(%d) = %v", i, got)
		}
		if got, want := token.Char(c), i == 9 || i >= 32 && i <= 126 || i >= 128; got != want {
			t.Errorf("Char(%d) = %v", i, got)
		}
	}
}

func TestToken(t *testing.T) {
	for _, s := range []string{"a", "0", "Content-Length", tchars} {
		if !token.Token(s) {
			t.Errorf("Token(%q) = false", s)
		}
	}
	for _, s := range []string{"", " ", "a b", " a", "a ", "a\t", "a,b", `"a"`, "a:", "a/b", "a=b", "a\x00", "\x7f", "\x80", "é"} {
		if token.Token(s) {
			t.Errorf("Token(%q) = true", s)
		}
	}
	for i := range 256 { // one wrong byte at the beginning, in the middle or at the end
		c := string([]byte{byte(i)})
		for _, s := range []string{c, c + "ab", "a" + c + "b", "ab" + c} {
			if token.Token(s) != token.Tchar(byte(i)) {
				t.Errorf("Token(%q) = %v", s, token.Token(s))
			}
		}
	}
}

func TestLower(t *testing.T) {
	for _, x := range [][2]string{
		{"", ""}, {"a", "a"}, {"ABCXYZ", "abcxyz"}, {"Content-MD5", "content-md5"},
		{"É", "É"}, {"\u212a", "\u212a"}, {"\xc0\xff\x00A", "\xc0\xff\x00a"},
	} {
		if got := token.Lower(x[0]); got != x[1] {
			t.Errorf("Lower(%q) = %q", x[0], got)
		}
	}
	for i := range 256 {
		want := byte(i)
		if i >= 65 && i <= 90 {
			want += 32
		}
		if got := token.Lower(string([]byte{byte(i)})); got != string([]byte{want}) {
			t.Errorf("Lower of byte %d = %q", i, got)
		}
	}
}

func TestSame(t *testing.T) {
	for _, x := range []struct {
		a, b string
		same bool
	}{
		{"", "", true}, {"aB", "Ab", true}, {"Host", "hOST", true}, {"é", "é", true},
		{"a", "", false}, {"", "a", false}, {"a", "ab", false}, {"ab", "a", false}, {"a", "b", false},
		{"k", "\u212a", false}, {"s", "\u017f", false}, {"É", "é", false}, // alike in Unicode only
		{"\xff", "\xfe", false}, {"[", "{", false}, {"@", "`", false}, {"^", "~", false}, // 32 apart, but no letters
	} {
		if token.Same(x.a, x.b) != x.same {
			t.Errorf("Same(%q, %q) = %v", x.a, x.b, !x.same)
		}
	}
	for i := range 256 {
		for j := range 256 {
			a, b := string([]byte{byte(i)}), string([]byte{byte(j)})
			if token.Same(a, b) != (token.Lower(a) == token.Lower(b)) {
				t.Errorf("Same(%q, %q) = %v", a, b, token.Same(a, b))
			}
		}
	}
}

func TestTrim(t *testing.T) {
	for _, x := range [][2]string{
		{"", ""}, {" ", ""}, {" \t \t", ""}, {"a", "a"}, {" \ta ", "a"}, {"a b\tc", "a b\tc"}, {"\t a  b \t", "a  b"},
		{"\na\r", "\na\r"}, {"\va\f", "\va\f"}, {"\u00a0a\u00a0", "\u00a0a\u00a0"}, {" \x00 ", "\x00"}, {" \xff ", "\xff"},
	} {
		if got := token.Trim(x[0]); got != x[1] {
			t.Errorf("Trim(%q) = %q", x[0], got)
		}
	}
}

func TestSplit(t *testing.T) {
	for _, x := range []struct {
		s     string
		parts []string
	}{
		{"", nil}, {" ", nil}, {",", nil}, {" ,\t, ,", nil},
		{"a", []string{"a"}}, {",a,", []string{"a"}}, {" a , b\t,c", []string{"a", "b", "c"}}, {"a b,c", []string{"a b", "c"}},
		{`a, "b,c" ,, d`, []string{"a", `"b,c"`, "d"}},
		{`""`, []string{`""`}}, {`"",""`, []string{`""`, `""`}}, {`"a""b,c",d`, []string{`"a""b,c"`, "d"}},
		{`x="1,2";y=3,z`, []string{`x="1,2";y=3`, "z"}},
		{`"a\",b",c`, []string{`"a\",b"`, "c"}}, {`"a\\",b`, []string{`"a\\"`, "b"}}, {`"a\,b",c`, []string{`"a\,b"`, "c"}},
		{`a\",b",c`, []string{`a\",b"`, "c"}}, {`\,a`, []string{`\`, "a"}}, // outside, a \ takes nothing with it
		{`"`, []string{`"`}}, {`a,"b,c`, []string{"a", `"b,c`}}, {`a,"b, c `, []string{"a", `"b, c`}}, // not closed
		{`"a\`, []string{`"a\`}}, {`"a\"`, []string{`"a\"`}}, {`a,"\",b`, []string{"a", `"\",b`}},
		{"\" a \"", []string{"\" a \""}}, {"a\x00,\xff", []string{"a\x00", "\xff"}}, {"\"\x00,\",b", []string{"\"\x00,\"", "b"}},
	} {
		if got := token.Split(x.s); !slices.Equal(got, x.parts) {
			t.Errorf("Split(%q) = %q, want %q", x.s, got, x.parts)
		}
	}
}

// slowSplit is the document's rule, byte by byte.
func slowSplit(s string) []string {
	var parts []string
	part, quoted, taken := "", false, false
	end := func() {
		if part = strings.Trim(part, " \t"); part != "" {
			parts = append(parts, part)
		}
		part = ""
	}
	for _, c := range []byte(s) {
		switch {
		case !quoted && c == ',':
			end()
			continue
		case !quoted:
			quoted = c == '"'
		case taken:
			taken = false
		case c == '\\':
			taken = true
		default:
			quoted = c != '"'
		}
		part += string([]byte{c})
	}
	end()
	return parts
}

// texts calls f with every string of at most most bytes of the alphabet.
func texts(alphabet string, most int, f func(s string)) {
	f("")
	for level := []string{""}; most > 0; most-- {
		var next []string
		for _, s := range level {
			for i := range len(alphabet) {
				next = append(next, s+alphabet[i:i+1])
				f(next[len(next)-1])
			}
		}
		level = next
	}
}

func TestSplitOfAllShortTexts(t *testing.T) {
	texts("a \t,\"\\\x01", 6, func(s string) {
		if got := token.Split(s); !slices.Equal(got, slowSplit(s)) {
			t.Fatalf("Split(%q) = %q, want %q", s, got, slowSplit(s))
		}
	})
}

func TestPartsShareNoMemory(t *testing.T) {
	a, b := token.Split("a,b,c"), token.Split("a,b,c")
	_ = append(a[:2], "x")
	a[0] = "y"
	if !slices.Equal(b, []string{"a", "b", "c"}) {
		t.Errorf("%q", b)
	}
}

// A result stays as it is whatever happens to the memory of the argument.
func TestResultsAreNewMemory(t *testing.T) {
	of := func(f func(s string) string) string {
		b := []byte(`"abc"`)
		r := f(unsafe.String(&b[0], len(b)))
		for i := range b {
			b[i] = 'z'
		}
		return r
	}
	quoted := func(f func(s string) (string, bool)) string {
		return of(func(s string) string {
			r, ok := f(s)
			if !ok {
				t.Errorf("an error for %q", s)
			}
			return r
		})
	}
	for name, got := range map[string]string{
		"Lower":   of(token.Lower),
		"Trim":    of(token.Trim),
		"Split":   of(func(s string) string { return token.Split(s)[0] }),
		"Unquote": `"` + quoted(func(s string) (string, bool) { r, e := token.Unquote(s); return r, e == 0 }) + `"`,
		"Quote": quoted(func(s string) (string, bool) {
			r, e := token.Quote(s[1:4])
			return r, e == 0
		}),
	} {
		if got != `"abc"` {
			t.Errorf("%s: %q", name, got)
		}
	}
}
