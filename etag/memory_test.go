package etag_test

import (
	"slices"
	"testing"
	"unsafe"

	"halfwayhouse/api"
	"halfwayhouse/etag"
)

// Arguments stay as they are, with their spare capacity, also when the whole memory of a result is written; and what is beyond their end is not read.
func TestArgumentsAreNotChanged(t *testing.T) {
	memory := of("A", "1", "If-Match", "x", "ETag", `"a"`, "B", "2", "If-None-Match", `"a"`, "Last-Modified", first, "range", "", "If-Modified-Since", first, "C", "3", "ETag", "", "If-None-Match", "*", "Last-Modified", "", "spare", "4", "spare", "5")
	kept := slices.Clone(memory)
	c := both(strong("a"), sec)
	for end := range len(memory) {
		l := memory[:end]
		short := slices.Clone(l)[:end:end]
		asked := etag.Ask(l, c)
		if !slices.Equal(asked, etag.Ask(short, c)) || etag.Of(l, now) != etag.Of(short, now) || etag.Unchanged(l, c, now) != etag.Unchanged(short, c, now) {
			t.Errorf("%d fields: what is beyond them was read", end)
		}
		for _, result := range [][]api.Field{asked, etag.Ask(l, api.Checks{})} {
			clear(result[:cap(result)])
			if !slices.Equal(memory, kept) {
				t.Fatalf("%d fields: %q", end, memory)
			}
		}
	}
}

// The same for the values of which tags are made.
func TestValuesAreNotChanged(t *testing.T) {
	memory := []string{`"a"`, `W/"b", "c"`, "", `"d"`, "*", "spare"}
	kept := slices.Clone(memory)
	for end := range len(memory) {
		l := memory[:end]
		tags, star, e := etag.Tags(l)
		again, starAgain, eAgain := etag.Tags(slices.Clone(l)[:end:end])
		if !slices.Equal(tags, again) || star != starAgain || e != eAgain {
			t.Errorf("%d values: what is beyond them was read", end)
		}
		clear(tags[:cap(tags)])
		if !slices.Equal(memory, kept) {
			t.Fatalf("%d values: %q", end, memory)
		}
	}
}

// The spare capacity of a result has nothing of an argument in it.
func TestSpareCapacityIsEmpty(t *testing.T) {
	l := of("If-Match", "x", "A", "1", "Range", "", "If-None-Match", `"a"`, "If-Range", "y", "B", "2", "If-Modified-Since", first, "If-Unmodified-Since", first)
	for _, c := range []api.Checks{{}, tagged(strong("a")), changed(sec), both(weak("b"), sec)} {
		asked := etag.Ask(l, c)
		for _, f := range asked[len(asked):cap(asked)] {
			if f != (api.Field{}) {
				t.Errorf("%q", f)
			}
		}
	}
}

// text returns a text of the bytes of s, and a function that overwrites them.
func text(s string) (string, func()) {
	b := []byte(s)
	return unsafe.String(unsafe.SliceData(b), len(b)), func() {
		for i := range b {
			b[i] = 'z'
		}
	}
}

// Results stay as they are whatever happens to the memory of the arguments.
func TestResultsAreNewMemory(t *testing.T) {
	var wipes []func()
	own := func(s string) string {
		s, wipe := text(s)
		wipes = append(wipes, wipe)
		return s
	}
	name, last := own("ETag"), own("Last-Modified")
	value, since := own(`W/"abc"`), own(first)
	l := of(name, value, last, since)
	tag, _ := etag.Parse(value)
	made, _ := etag.Text(strong(own("abc")))
	tags, _, _ := etag.Tags([]string{value, own(`"d", "e"`)})
	c := etag.Of(l, now)
	asked := etag.Ask(l, both(strong(own("abc")), sec))
	for _, wipe := range wipes {
		wipe()
	}
	clear(l)
	if tag != weak("abc") || made != `"abc"` || c != both(weak("abc"), sec) || !slices.Equal(tags, []api.Tag{weak("abc"), strong("d"), strong("e")}) {
		t.Errorf("%+v, %q, %+v, %+v", tag, made, c, tags)
	}
	if want := of("ETag", `W/"abc"`, "Last-Modified", first, "If-None-Match", `"abc"`, "If-Modified-Since", first); !slices.Equal(asked, want) {
		t.Errorf("%q", asked)
	}
}

// Each call begins anew: nothing is kept from the ones before.
func TestNothingIsKept(t *testing.T) {
	l, c := of("If-None-Match", `"a"`, "A", "1"), both(strong("a"), sec)
	for range 3 {
		if !etag.Unchanged(l, c, now) || etag.Unchanged(nil, c, now) || etag.Of(l, now) != (api.Checks{}) {
			t.Error("Unchanged or Of")
		}
		if asked := etag.Ask(l, c); !slices.Equal(asked, of("A", "1", "If-None-Match", `"a"`, "If-Modified-Since", first)) {
			t.Errorf("%q", asked)
		}
		etag.Tags([]string{"x"})
		etag.Of(of("ETag", `"b"`), 0)
	}
}
