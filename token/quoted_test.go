package token_test

import (
	"strings"
	"testing"

	"halfwayhouse/api"
	"halfwayhouse/token"
)

// P1.2: quoted strings.
func TestQuote(t *testing.T) {
	for _, x := range [][2]string{
		{"", `""`}, {"a", `"a"`}, {"a b\tc", "\"a b\tc\""}, {`a"b\`, `"a\"b\\"`}, {`"`, `"\""`}, {`\`, `"\\"`}, {`\"`, `"\\\""`},
		{"\x80\xff", "\"\x80\xff\""}, {"a,b", `"a,b"`},
	} {
		if got, e := token.Quote(x[0]); got != x[1] || e != api.OK {
			t.Errorf("Quote(%q) = %q, %d", x[0], got, e)
		}
	}
	for i := range 256 { // one wrong byte anywhere
		c := string([]byte{byte(i)})
		for _, s := range []string{c, c + "a", "a" + c} {
			got, e := token.Quote(s)
			if token.Char(byte(i)) != (e == api.OK) || e != api.OK && (e != api.ErrBad || got != "") {
				t.Errorf("Quote(%q) = %q, %d", s, got, e)
			}
		}
	}
}

func TestUnquote(t *testing.T) {
	for _, x := range [][2]string{
		{`""`, ""}, {`"a"`, "a"}, {`"a\b"`, "ab"}, {`"\""`, `"`}, {`"\\"`, `\`}, {`"\\\""`, `\"`}, {`"\\\\"`, `\\`}, {`"a, b"`, "a, b"},
		{"\"\t\\\t\\ \"", "\t\t "}, {"\"\x80\\\xff\"", "\x80\xff"},
	} {
		if got, e := token.Unquote(x[0]); got != x[1] || e != api.OK {
			t.Errorf("Unquote(%q) = %q, %d", x[0], got, e)
		}
	}
	for _, s := range []string{
		"", "a", `"`, `"a`, `a"`, `"\"`, `"a\"`, `"\`, `"\\\"`, `'a'`, // not closed, not opened
		` "a"`, `"a" `, `x"a"`, `"a"x`, `"a"b"`, `"a""b"`, `"""`, `""""`, // more than one quoted string
		"\"\x00\"", "\"\x7f\"", "\"a\nb\"", "\"\\\x00\"", "\"\\\x7f\"", "\"\\\r\"", // no value characters
	} {
		if got, e := token.Unquote(s); got != "" || e != api.ErrBad {
			t.Errorf("Unquote(%q) = %q, %d", s, got, e)
		}
	}
}

// slowUnquote follows the term: a ", value characters in which each " and each \ has a \ before it, a ".
func slowUnquote(s string) (string, bool) {
	rest, open := strings.CutPrefix(s, `"`)
	rest, closed := strings.CutSuffix(rest, `"`)
	if !open || !closed {
		return "", false
	}
	out := ""
	for rest != "" {
		c := rest[:1]
		if c == `"` || c == `\` && len(rest) == 1 {
			return "", false
		}
		if c == `\` {
			c = rest[1:2]
			rest = rest[1:]
		}
		if !token.Char(c[0]) {
			return "", false
		}
		out, rest = out+c, rest[1:]
	}
	return out, true
}

func TestUnquoteOfAllShortTexts(t *testing.T) {
	texts("a\t,\"\\\x01\x80", 6, func(s string) {
		want, ok := slowUnquote(s)
		if got, e := token.Unquote(s); got != want || ok != (e == api.OK) || !ok && e != api.ErrBad {
			t.Fatalf("Unquote(%q) = %q, %d, want %q, %v", s, got, e, want, ok)
		}
	})
}

// P1.4: Unquote of Quote(s) is s; what Quote returns is one part of a list.
func TestUnquoteOfQuote(t *testing.T) {
	check := func(s string) {
		quoted, e := token.Quote(s)
		if got, f := token.Unquote(quoted); e != api.OK || f != api.OK || got != s {
			t.Fatalf("Unquote(%q) = %q, %d", quoted, got, f)
		}
		if l := token.Split(quoted + "," + quoted); len(l) != 2 || l[0] != quoted || l[1] != quoted {
			t.Fatalf("Split of %q twice = %q", quoted, l)
		}
	}
	texts("a \t,\"\\\xff", 5, check)
	var every []byte
	for i := range 256 {
		if token.Char(byte(i)) {
			every = append(every, byte(i))
		}
	}
	check(string(every))
	check(strings.Repeat(`"\`, 100000))
}
