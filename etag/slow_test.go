package etag_test

import (
	"regexp"
	"slices"
	"strings"
	"testing"
	"time"

	"halfwayhouse/api"
	"halfwayhouse/date"
	"halfwayhouse/etag"
	"halfwayhouse/token"
)

// texts returns every string of at most most bytes of the alphabet.
func texts(alphabet string, most int) []string {
	all := []string{""}
	for level := all; most > 0; most-- {
		var next []string
		for _, s := range level {
			for i := range len(alphabet) {
				next = append(next, s+alphabet[i:i+1])
			}
		}
		all = append(all, next...)
		level = next
	}
	return all
}

// shape is a tag. The bytes of a text are made runes of the same number, as an expression knows no bytes.
var shape = regexp.MustCompile(`\A(W/)?"([!#-~\x{80}-\x{ff}]*)"\z`)

// slowTag follows the terms.
func slowTag(s string) (api.Tag, bool) {
	runes := make([]rune, len(s))
	for i := range len(s) {
		runes[i] = rune(s[i])
	}
	found := shape.FindStringSubmatch(string(runes))
	if found == nil {
		return api.Tag{}, false
	}
	var value []byte
	for _, r := range found[2] {
		value = append(value, byte(r))
	}
	return api.Tag{Weak: found[1] != "", Value: string(value)}, true
}

// slowTags follows P11.1: all parts are gathered first.
func slowTags(l []string) (tags []api.Tag, star, ok bool) {
	var parts []string
	for _, s := range l {
		parts = append(parts, token.Split(s)...)
	}
	if slices.Equal(parts, []string{"*"}) {
		return nil, true, true
	}
	for _, part := range parts {
		tag, ok := slowTag(part)
		if !ok {
			return nil, false, false
		}
		tags = append(tags, tag)
	}
	return tags, false, len(parts) > 0
}

// compareTags asks for the tags of l.
func compareTags(t *testing.T, l []string) {
	want, wantStar, ok := slowTags(l)
	tags, star, e := etag.Tags(l)
	if !slices.Equal(tags, want) || star != wantStar || ok != (e == api.OK) || !ok && e != api.ErrBad {
		t.Fatalf("Tags(%q) = %+v, %v, %d, want %+v, %v, %v", l, tags, star, e, want, wantStar, ok)
	}
}

// P11.1: all short texts, as a tag and as a list of tags.
func TestParseOfAllShortTexts(t *testing.T) {
	for _, s := range texts("W/\"*, \\\xff", 6) {
		want, ok := slowTag(s)
		if tag, e := etag.Parse(s); tag != want || ok != (e == api.OK) || !ok && e != api.ErrBad {
			t.Fatalf("Parse(%q) = %+v, %d", s, tag, e)
		}
		compareTags(t, []string{s})
		compareTags(t, []string{`"a"`, `"b",W/` + s, s})
	}
}

// P11.1: every three of a few values, in one and each by itself.
func TestTagsOfEveryFewValues(t *testing.T) {
	values := []string{"", "*", `"a"`, `W/"a"`, `"b,*"`, "a", `"`, `W/""`, `"\"`, "\t", " , ", `"a",*`, `w/"a"`, `"c" ,,W/"d"`}
	for _, a := range values {
		for _, b := range values {
			for _, c := range values {
				compareTags(t, []string{a, b, c})
				compareTags(t, []string{a + ", " + b, c})
				compareTags(t, []string{a + "," + b + " ,	" + c})
			}
		}
	}
}

// P11.1: each byte at each place, in place of what is there and beside it, each byte left out.
func TestTagsOfEdits(t *testing.T) {
	for _, s := range []string{`W/"ab"`, `"a", W/"b"`, " *,", `"\\","c"`} {
		for i := range len(s) + 1 {
			compareTags(t, []string{s[:i], s[i:]})
			for c := range 256 {
				b := string([]byte{byte(c)})
				compareTags(t, []string{s[:i] + b + s[i:]})
				if i < len(s) {
					compareTags(t, []string{s[:i] + b + s[i+1:]})
				}
			}
			if i < len(s) {
				compareTags(t, []string{s[:i] + s[i+1:]})
			}
		}
	}
}

// slowValues returns the values of the fields with that name.
func slowValues(l []api.Field, name string) []string {
	var values []string
	for _, f := range l {
		if strings.EqualFold(f.Name, name) { // all names of the tests are ASCII
			values = append(values, f.Value)
		}
	}
	return values
}

// slowTime returns the only time of that name.
func slowTime(l []api.Field, name string) (int64, bool) {
	values := slowValues(l, name)
	if len(values) != 1 {
		return 0, false
	}
	at, e := date.Parse(values[0], now)
	return at, e == api.OK
}

// slowOf follows P11.2.
func slowOf(l []api.Field) api.Checks {
	var c api.Checks
	if values := slowValues(l, "etag"); len(values) == 1 {
		c.Tag, c.HasTag = slowTag(values[0])
	}
	c.Last, c.HasLast = slowTime(l, "last-modified")
	return c
}

// slowUnchanged follows P11.2.
func slowUnchanged(asked []api.Field, c api.Checks) bool {
	if values := slowValues(asked, "if-none-match"); values != nil {
		tags, star, ok := slowTags(values)
		matches := func(t api.Tag) bool { return t.Value == c.Tag.Value }
		return ok && (star || c.HasTag && slices.ContainsFunc(tags, matches))
	}
	at, ok := slowTime(asked, "if-modified-since")
	return ok && c.HasLast && c.Last <= at
}

// slowAsk follows P11.2.
func slowAsk(l []api.Field, c api.Checks) []api.Field {
	var asked []api.Field
	for _, f := range l {
		if !slices.Contains([]string{"if-match", "if-none-match", "if-modified-since", "if-unmodified-since", "if-range", "range"}, strings.ToLower(f.Name)) {
			asked = append(asked, f)
		}
	}
	mark := ""
	if c.Tag.Weak {
		mark = "W/"
	}
	text := mark + `"` + c.Tag.Value + `"`
	if _, ok := slowTag(text); ok && c.HasTag {
		asked = append(asked, api.Field{Name: "If-None-Match", Value: text})
	}
	if c.HasLast && c.Last >= 0 && c.Last <= api.MaxTime {
		asked = append(asked, api.Field{Name: "If-Modified-Since", Value: time.Unix(c.Last, 0).UTC().Format("Mon, 02 Jan 2006 15:04:05 GMT")})
	}
	return asked
}

// P11.2: every list of at most three fields of a few, with a few checks.
func TestChecksOfAllShortLists(t *testing.T) {
	fields := of(
		"ETag", `"a"`, "etag", `W/"b"`, "ETag", "a", "Last-Modified", first, "last-modified", third, "Last-Modified", "x",
		"If-None-Match", `"a"`, "if-none-match", `"c", W/"b"`, "If-None-Match", "*", "If-None-Match", "", "If-None-Match", "a",
		"If-Modified-Since", first, "if-modified-since", before, "If-Modified-Since", "x",
		"If-Match", `"a"`, "IF-UNMODIFIED-SINCE", first, "If-range", `"a"`, "Range", "bytes=0-", "A", "1", "Accept-Ranges", "2",
	)
	var checks []api.Checks
	for _, tag := range []api.Tag{strong("a"), weak("b"), strong(`"`), {}} {
		for _, at := range []int64{sec, sec - 1, -1, 0} {
			for bits := range 4 {
				checks = append(checks, api.Checks{Tag: tag, HasTag: bits&1 > 0, Last: at, HasLast: bits&2 > 0})
			}
		}
	}
	compare := func(l []api.Field) {
		if got, want := etag.Of(l, now), slowOf(l); got != want {
			t.Fatalf("Of(%q) = %+v, want %+v", l, got, want)
		}
		for _, c := range checks {
			if got := etag.Unchanged(l, c, now); got != slowUnchanged(l, c) {
				t.Fatalf("Unchanged(%q, %+v) = %v", l, c, got)
			}
			if got, want := etag.Ask(l, c), slowAsk(l, c); !slices.Equal(got, want) {
				t.Fatalf("Ask(%q, %+v) = %q, want %q", l, c, got, want)
			}
		}
	}
	compare(nil)
	for _, a := range fields {
		compare([]api.Field{a})
		for _, b := range fields {
			compare([]api.Field{a, b})
			for _, c := range fields {
				compare([]api.Field{a, b, c})
			}
		}
	}
}
