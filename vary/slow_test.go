package vary_test

import (
	"fmt"
	"slices"
	"strings"
	"testing"

	"halfwayhouse/api"
	"halfwayhouse/token"
	"halfwayhouse/vary"
)

// texts returns every string of at most most bytes of the alphabet.
func texts(alphabet string, most int) []string {
	all := []string{""}
	for level := all; most > 0; most-- {
		var next []string
		for _, s := range level {
			for i := range len(alphabet) {
				next = append(next, s+alphabet[i:i+1])
			}
		}
		all = append(all, next...)
		level = next
	}
	return all
}

// lists returns every list of at most most of the fields.
func lists(fields []api.Field, most int) [][]api.Field {
	all := [][]api.Field{nil}
	for level := all; most > 0; most-- {
		var next [][]api.Field
		for _, l := range level {
			for _, f := range fields {
				next = append(next, append(slices.Clone(l), f))
			}
		}
		all = append(all, next...)
		level = next
	}
	return all
}

// slowAll returns the values of the fields with that name; all names of the tests here are ASCII.
func slowAll(l []api.Field, name string) []string {
	var values []string
	for _, f := range l {
		if strings.ToLower(f.Name) == strings.ToLower(name) {
			values = append(values, f.Value)
		}
	}
	return values
}

// slowNames follows P12.1.
func slowNames(l []api.Field) ([]string, bool) {
	var names []string
	star := false
	for _, value := range slowAll(l, "vary") {
		for _, part := range token.Split(value) {
			star = star || part == "*"
			if name := strings.ToLower(part); !slices.Contains(names, name) {
				names = append(names, name)
			}
		}
	}
	if star {
		return nil, true
	}
	for i := range names { // the least of those left comes next
		for j := i + 1; j < len(names); j++ {
			if names[j] < names[i] {
				names[i], names[j] = names[j], names[i]
			}
		}
	}
	return names, false
}

// slowValue follows P12.1: two blanks become one as long as there are two.
func slowValue(l []api.Field, name string) string {
	text, mark := "", "-"
	for _, value := range slowAll(l, name) {
		if mark == "+" {
			text += ", "
		}
		mark = "+"
		value = strings.ReplaceAll(value, "\t", " ")
		for strings.Contains(value, "  ") {
			value = strings.ReplaceAll(value, "  ", " ")
		}
		text += value
	}
	return mark + text
}

// slowKey follows P12.2.
func slowKey(names []string, l []api.Field) string {
	key := ""
	for _, name := range names {
		value := slowValue(l, name)
		key += fmt.Sprintf("%s:%d:%s\n", strings.ToLower(name), len(value), value)
	}
	return key
}

// compareNames asks for the names of l.
func compareNames(t *testing.T, l []api.Field) {
	want, wantStar := slowNames(l)
	if names, star := vary.Names(l); !slices.Equal(names, want) || star != wantStar {
		t.Fatalf("Names(%q) = %q, %v, want %q, %v", l, names, star, want, wantStar)
	}
}

// compareValue asks for what l has for a name.
func compareValue(t *testing.T, l []api.Field, name string) {
	if got, want := vary.Value(l, name), slowValue(l, name); got != want {
		t.Fatalf("Value(%q, %q) = %q, want %q", l, name, got, want)
	}
}

// P12.1: all short texts, as a Vary and as a value.
func TestAllShortTexts(t *testing.T) {
	for _, s := range texts("aB*, \t\"\\", 5) {
		compareNames(t, of("Vary", s))
		compareNames(t, of("Vary", "b, "+s, "X", "*", "vary", s))
	}
	for _, s := range texts("a, \t.\n\xff", 6) {
		compareValue(t, of("A", s), "a")
	}
	for _, s := range texts(" \t.,", 4) {
		for _, next := range texts(" \t.", 3) {
			compareValue(t, of("A", s, "a", next), "A")
		}
	}
}

// P12.1: every list of up to three of a few fields.
func TestNamesOfAllShortLists(t *testing.T) {
	fields := of("Vary", "a", "vary", "B, A", "Vary", "*", "VARY", "b,*,c", "Vary", "", "Vary", ",", "Vary", `"x`, "Vary", `"*", c`, "Vary", "C, b, a", "A", "*", "Varied", "d")
	for _, l := range lists(fields, 3) {
		compareNames(t, l)
	}
}

// P12.1 and P12.2: every list of up to three of a few fields, by a few lists of names.
func TestKeysOfAllShortLists(t *testing.T) {
	fields := of("A", "1", "a", "2", "a", "", "A", " \t", "A", "1,  2", "B", "1", "b", "x\t y", "AB", "1", "", "1")
	for _, l := range lists(fields, 3) {
		for _, name := range []string{"a", "A", "b", "ab", "", "c"} {
			compareValue(t, l, name)
		}
		for _, names := range [][]string{nil, {"a"}, {"a", "b"}, {"B", "A"}, {"ab", "", "a", "c"}, {"a", "a"}} {
			if got, want := vary.Key(names, l), slowKey(names, l); got != want {
				t.Fatalf("Key(%q, %q) = %q, want %q", names, l, got, want)
			}
		}
	}
}

// P12.3: two requests match if and only if their keys are equal; by the slow form, if and only if each value is the same.
func TestMatchIsEqualityOfKeys(t *testing.T) {
	requests := lists(of("A", "1", "a", "1, 1", "A", "", "B", "1", "b", " 1", "B", "\t1", "C", ""), 2)
	// Values that imitate the end of an entry and the next one, as a whole or in part.
	for _, s := range []string{"\n", "\nb:1:-", "\nb:1:-\n", "\nb:2:+1", "\nb:2:+1\nb:1:-", "1\nb:1:+", "\nb:8:+\nb:1:-", ":", "-", "+", "1:-\nb:1:-"} {
		requests = append(requests, of("A", s), of("B", s), of("A", s, "B", "1"), of("A", s, "B", s))
	}
	for _, names := range [][]string{nil, {"a"}, {"b"}, {"a", "b"}, {"B", "a"}, {"a", "b", "c"}, {"a", "a"}, {"a", "", "b"}, {"a\nb", "b", "a"}, {"1", "a", "11", "b:1"}} {
		for _, a := range requests {
			key := vary.Key(names, a)
			for _, b := range requests {
				same := true
				for _, name := range names {
					same = same && slowValue(a, name) == slowValue(b, name)
				}
				if got := vary.Match(names, a, b); got != same || got != (key == vary.Key(names, b)) {
					t.Fatalf("Match(%q, %q, %q) = %v, keys %q, %q", names, a, b, got, key, vary.Key(names, b))
				}
			}
		}
	}
}
