package control_test

import (
	"math/big"
	"regexp"
	"slices"
	"strings"
	"testing"

	"halfwayhouse/api"
	"halfwayhouse/control"
	"halfwayhouse/token"
)

var (
	// The name, what is behind the =, what is in its quotes. The bytes of a text are made runes of the same number, as an expression knows no bytes.
	shape  = regexp.MustCompile("(?s)^([-!#$%&'*+.^_`|~0-9A-Za-z]+)(=(\"((?:[\t !#-\\[\\]-~\u0080-\u00ff]|\\\\[\t -~\u0080-\u00ff])*)\"|.*))?$")
	escape = regexp.MustCompile(`\\(.)`)
	digits = regexp.MustCompile(`^[0-9]+$`)
)

func runes(s string) string {
	var b strings.Builder
	for i := range len(s) {
		b.WriteRune(rune(s[i]))
	}
	return b.String()
}

func bytes(s string) string {
	var b []byte
	for _, r := range s {
		b = append(b, byte(r))
	}
	return string(b)
}

// A directive of the slow form: its number is -1 if its text is none.
type directive struct {
	name, text string
	there      bool
	number     int64
}

// slowDirectives follows the terms, with an expression for a directive.
func slowDirectives(l []string) []directive {
	var all []directive
	for _, value := range l {
		for _, part := range token.Split(value) {
			found := shape.FindStringSubmatchIndex(runes(part))
			if found == nil {
				continue
			}
			group := func(i int) (string, bool) {
				if found[2*i] < 0 {
					return "", false
				}
				return bytes(runes(part)[found[2*i]:found[2*i+1]]), true
			}
			name, _ := group(1)
			text, there := group(3)
			if quoted, is := group(4); is {
				text = bytes(escape.ReplaceAllString(runes(quoted), "$1"))
			}
			all = append(all, directive{strings.ToLower(name), text, there, slowNumber(text)})
		}
	}
	return all
}

func slowNumber(text string) int64 {
	if !digits.MatchString(text) {
		return -1
	}
	n, _ := new(big.Int).SetString(text, 10)
	if n.Cmp(big.NewInt(1<<31)) > 0 {
		return 1 << 31
	}
	return n.Int64()
}

// slowParse follows P10.1: it gathers all numbers of each name first.
func slowParse(all []directive) api.Control {
	c := nothing()
	for _, n := range numbered {
		var seconds []int64
		for _, d := range all {
			switch {
			case d.name != n.name:
			case d.number >= 0:
				seconds = append(seconds, d.number)
			case n.name == "max-age" || n.name == "s-maxage":
				seconds = append(seconds, 0)
			case n.name == "max-stale" && !d.there:
				seconds = append(seconds, 1<<31)
			}
		}
		if len(seconds) > 0 {
			slices.Sort(seconds)
			*n.place(&c) = seconds[0]
			if n.name == "max-stale" {
				*n.place(&c) = seconds[len(seconds)-1]
			}
		}
	}
	for _, f := range flagged {
		*f.place(&c) = slices.ContainsFunc(all, func(d directive) bool { return d.name == f.name })
	}
	return c
}

// compare asks for the directives and the control of l.
func compare(t *testing.T, l []string) {
	all := slowDirectives(l)
	var want []string
	for _, d := range all {
		want = append(want, d.name, d.text)
	}
	if got := pairs(control.Each(l)); !slices.Equal(got, want) {
		t.Fatalf("Each(%q) = %q, want %q", l, got, want)
	}
	if got, want := control.Parse(l), slowParse(all); got != want {
		t.Fatalf("Parse(%q) = %+v, want %+v", l, got, want)
	}
}

// P10.1: every three parts of a few, in one value, and each in a value of its own.
func TestParseOfEveryFewParts(t *testing.T) {
	var parts []string
	for _, n := range numbered {
		for _, text := range []string{"", "=", "=3", `="5"`, "=9999999999"} {
			parts = append(parts, n.name+text)
		}
	}
	parts = append(parts, "", "x", "No-Cache", `private="max-age=1, x"`, `no-store="`, "MAX-STALE=4", "Max-Age=x", `"`)
	for _, a := range parts {
		for _, b := range parts {
			for _, c := range parts {
				compare(t, []string{a + ", " + b + "," + c})
			}
			compare(t, []string{a, b})
		}
	}
}

// P10.1: each byte at each place, in place of what is there and beside it, each byte left out, each beginning and each end.
func TestParseOfEdits(t *testing.T) {
	bases := []string{`no-cache="a\"\, b",max-stale,public`, `Max-Age="10", s-maxage=7`, `x, stale-if-error=2147483648`, `private="x"`, `max-age=5`}
	for _, f := range flagged {
		bases = append(bases, f.name)
	}
	for _, n := range numbered {
		bases = append(bases, n.name+"=42")
	}
	for _, s := range bases {
		for i := range len(s) + 1 {
			compare(t, []string{s[:i], s[i:]})
			for c := range 256 {
				between := string([]byte{byte(c)})
				compare(t, []string{s[:i] + between + s[i:]})
				if i < len(s) {
					compare(t, []string{s[:i] + between + s[i+1:]})
				}
			}
			if i < len(s) {
				compare(t, []string{s[:i] + s[i+1:]})
			}
		}
	}
}

// P10.1: all short texts behind a name.
func TestParseOfAllShortTexts(t *testing.T) {
	const bytes = "0 5=\"\\,x\x00\xff"
	level := []string{""}
	for range 5 {
		var next []string
		for _, s := range level {
			for i := range len(bytes) {
				next = append(next, s+bytes[i:i+1])
			}
		}
		for _, s := range next {
			compare(t, []string{"max-stale" + s + ",min-fresh=" + s + ",max-age", s})
		}
		level = next
	}
}
