package etag_test

import (
	"math"
	"slices"
	"strconv"
	"strings"
	"testing"

	"halfwayhouse/api"
	"halfwayhouse/date"
	"halfwayhouse/etag"
	"halfwayhouse/token"
)

// The second sec, in the three formats, with a second before and after.
const (
	sec    = 784111777
	before = "Sun, 06 Nov 1994 08:49:36 GMT"
	first  = "Sun, 06 Nov 1994 08:49:37 GMT"
	second = "Sunday, 06-Nov-94 08:49:37 GMT"
	third  = "Sun Nov  6 08:49:37 1994"
	after  = "Sun, 06 Nov 1994 08:49:38 GMT"
	now    = 1800000000
)

// of makes a list of names and values in turn.
func of(texts ...string) []api.Field {
	var l []api.Field
	for i := 0; i < len(texts); i += 2 {
		l = append(l, api.Field{Name: texts[i], Value: texts[i+1]})
	}
	return l
}

func tagged(t api.Tag) api.Checks { return api.Checks{Tag: t, HasTag: true} }
func changed(at int64) api.Checks { return api.Checks{Last: at, HasLast: true} }
func both(t api.Tag, at int64) api.Checks {
	return api.Checks{Tag: t, HasTag: true, Last: at, HasLast: true}
}

// P11.2: what a response can be checked by.
func TestOf(t *testing.T) {
	for _, x := range []struct {
		l []api.Field
		c api.Checks
	}{
		{nil, api.Checks{}}, {[]api.Field{}, api.Checks{}}, {of("Date", first, "A", `"a"`), api.Checks{}},
		{of("ETag", `"a"`), tagged(strong("a"))}, {of("etag", `W/"a"`), tagged(weak("a"))}, {of("ETAG", `""`), tagged(strong(""))}, {of("ETag", `W/""`), tagged(weak(""))},
		{of("Last-Modified", first), changed(sec)}, {of("LAST-modified", second), changed(sec)}, {of("last-modified", third), changed(sec)},
		{of("Last-Modified", "Thu, 01 Jan 1970 00:00:00 GMT"), changed(0)}, {of("Last-Modified", "Fri, 31 Dec 9999 23:59:59 GMT"), changed(api.MaxTime)},
		{of("Last-Modified", first, "X", "", "ETag", `"a"`), both(strong("a"), sec)},
		// More than one of a name, though they are the same.
		{of("ETag", `"a"`, "ETag", `"a"`), api.Checks{}}, {of("ETag", `"a"`, "X", "", "eTag", "x"), api.Checks{}}, {of("ETag", "x", "ETag", `"a"`), api.Checks{}}, {of("ETag", `"a"`, "ETag", ""), api.Checks{}},
		{of("Last-Modified", first, "last-modified", first), api.Checks{}}, {of("Last-Modified", "x", "Last-Modified", first), api.Checks{}}, {of("Last-Modified", first, "Last-Modified", ""), api.Checks{}},
		{of("ETag", `"a"`, "Last-Modified", first, "ETag", `"b"`), changed(sec)}, {of("Last-Modified", first, "ETag", `"a"`, "Last-Modified", first), tagged(strong("a"))},
		// Not a tag, or not a time.
		{of("ETag", ""), api.Checks{}}, {of("ETag", "a"), api.Checks{}}, {of("ETag", "*"), api.Checks{}}, {of("ETag", ` "a"`), api.Checks{}}, {of("ETag", `"a", "b"`), api.Checks{}}, {of("ETag", `w/"a"`), api.Checks{}}, {of("ETag", `"a b"`), api.Checks{}},
		{of("Last-Modified", ""), api.Checks{}}, {of("Last-Modified", "0"), api.Checks{}}, {of("Last-Modified", " "+first), api.Checks{}}, {of("Last-Modified", first+", "+first), api.Checks{}}, {of("Last-Modified", "Mon, 06 Nov 1994 08:49:37 GMT"), api.Checks{}}, {of("Last-Modified", strings.ToLower(first)), api.Checks{}},
		{of("ETag", "a", "Last-Modified", first), changed(sec)}, {of("ETag", `"a"`, "Last-Modified", "x"), tagged(strong("a"))}, {of("ETag", first, "Last-Modified", `"a"`), api.Checks{}},
		// Other names.
		{of("ETag ", `"a"`, "E-Tag", `"a"`, "Tag", `"a"`, "", `"a"`, "Last_Modified", first, "Modified", first, "Last-Modified:", first, "If-None-Match", `"a"`, "If-Modified-Since", first), api.Checks{}},
	} {
		if c := etag.Of(x.l, now); c != x.c {
			t.Errorf("Of(%q) = %+v, want %+v", x.l, c, x.c)
		}
	}
}

// P11.2: the year of a time with two digits of it is one near now, in a response and in a request.
func TestShortYears(t *testing.T) {
	const (
		text = "Sunday, 06-Nov-94 08:49:37 GMT"   // a Sunday in 1994 and 9994
		next = "Saturday, 06-Nov-94 08:49:37 GMT" // a Saturday in 2094
	)
	for _, x := range []struct {
		now  int64
		text string
		at   int64
	}{
		{math.MinInt64, text, sec}, {-1, text, sec}, {0, text, sec}, {sec, text, sec}, {now, text, sec}, {2335219199, text, sec}, // the last second of 2043
		{2335219200, next, 3939871777}, {4102444800, next, 3939871777}, {api.MaxTime, text, 253239727777}, {math.MaxInt64, text, 253239727777},
	} {
		want, e := date.Parse(x.text, x.now)
		if want != x.at || e != api.OK {
			t.Fatalf("date.Parse(%q, %d) = %d, %d", x.text, x.now, want, e)
		}
		if c := etag.Of(of("Last-Modified", x.text), x.now); c != changed(x.at) {
			t.Errorf("Of(%q, %d) = %+v", x.text, x.now, c)
		}
		for _, d := range []int64{-1, 0, 1} {
			if got := etag.Unchanged(of("If-Modified-Since", x.text), changed(x.at+d), x.now); got != (d <= 0) {
				t.Errorf("Unchanged since %q for %d, at %d: %v", x.text, x.at+d, x.now, got)
			}
		}
	}
	if c := etag.Of(of("Last-Modified", next), now); c != (api.Checks{}) {
		t.Errorf("%+v", c)
	}
	if etag.Unchanged(of("If-Modified-Since", next), changed(0), now) {
		t.Error("a day with another weekday is a time")
	}
}

// P11.2: If-None-Match.
func TestUnchangedByTag(t *testing.T) {
	for _, x := range []struct {
		asked []api.Field
		c     api.Checks
		want  bool
	}{
		{of("If-None-Match", `"a", W/"b"`), tagged(strong("b")), true}, {of("If-None-Match", `"a", W/"b"`), tagged(weak("a")), true}, {of("If-None-Match", `"a", W/"b"`), tagged(strong("c")), false},
		{of("if-none-MATCH", `"a"`), tagged(strong("a")), true}, {of("If-None-Match", `W/"a"`), tagged(weak("a")), true}, {of("If-None-Match", `W/"a"`), tagged(strong("a")), true}, {of("If-None-Match", `"a"`), tagged(weak("a")), true},
		{of("If-None-Match", `"a"`, "X", "", "If-None-Match", `"b"`), tagged(strong("a")), true}, {of("If-None-Match", `"a"`, "X", "", "if-none-match", `"b"`), tagged(strong("b")), true},
		{of("If-None-Match", `""`), tagged(strong("")), true}, {of("If-None-Match", `"a,b"`), tagged(strong("a,b")), true}, {of("If-None-Match", `"a,b"`), tagged(strong("a")), false}, {of("If-None-Match", `"A"`), tagged(strong("a")), false}, {of("If-None-Match", `"*"`), tagged(strong("a")), false},
		// A star, whatever the response can be checked by.
		{of("If-None-Match", "*"), tagged(strong("a")), true}, {of("If-None-Match", "*"), api.Checks{}, true}, {of("If-None-Match", " ,*,"), changed(0), true}, {of("If-None-Match", "", "If-None-Match", "*"), api.Checks{}, true},
		{of("If-None-Match", "*", "If-None-Match", "*"), tagged(strong("a")), false}, {of("If-None-Match", `*, "a"`), tagged(strong("a")), false}, {of("If-None-Match", `"a"`, "If-None-Match", "*"), tagged(strong("a")), false},
		// A part that is no tag, before or after one that matches; or no part.
		{of("If-None-Match", `"a", b`), tagged(strong("a")), false}, {of("If-None-Match", `b, "a"`), tagged(strong("a")), false}, {of("If-None-Match", `"a"`, "If-None-Match", "b"), tagged(strong("a")), false}, {of("If-None-Match", "a"), tagged(strong("a")), false},
		{of("If-None-Match", ""), tagged(strong("")), false}, {of("If-None-Match", ""), api.Checks{}, false}, {of("If-None-Match", " , ,"), tagged(strong("a")), false},
		// The response has no tag.
		{of("If-None-Match", `"a"`), api.Checks{}, false}, {of("If-None-Match", `""`), api.Checks{}, false}, {of("If-None-Match", `"a"`), api.Checks{Tag: strong("a")}, false}, {of("If-None-Match", `"a"`), changed(0), false},
		// If-Modified-Since does not count beside it.
		{of("If-None-Match", `"a"`, "If-Modified-Since", first), both(strong("b"), sec), false}, {of("If-Modified-Since", first, "If-None-Match", `"a"`), both(strong("b"), sec), false}, {of("If-None-Match", `"a"`, "If-Modified-Since", first), changed(sec), false},
		{of("If-None-Match", "", "If-Modified-Since", first), both(strong("a"), sec), false}, {of("If-None-Match", "a", "If-Modified-Since", first), both(strong("a"), sec), false}, {of("If-None-Match", `*, "a"`, "If-Modified-Since", first), both(strong("a"), sec), false},
		{of("If-None-Match", `"a"`, "If-Modified-Since", before), both(strong("a"), sec), true}, {of("If-None-Match", "*", "If-Modified-Since", before), both(strong("a"), sec), true}, {of("If-None-Match", `"a"`, "If-Modified-Since", "x"), both(strong("a"), sec), true},
		// Other names.
		{of("If-Match", `"a"`, "If-None-Match ", `"a"`, "If-None", `"a"`, "ETag", `"a"`, "If-Range", `"a"`), tagged(strong("a")), false}, {nil, tagged(strong("a")), false}, {nil, api.Checks{}, false},
	} {
		if got := etag.Unchanged(x.asked, x.c, now); got != x.want {
			t.Errorf("Unchanged(%q, %+v) = %v", x.asked, x.c, got)
		}
	}
}

// P11.2: If-Modified-Since.
func TestUnchangedByTime(t *testing.T) {
	for _, x := range []struct {
		asked []api.Field
		c     api.Checks
		want  bool
	}{
		{of("If-Modified-Since", first), changed(sec), true}, {of("If-Modified-Since", after), changed(sec), true}, {of("If-Modified-Since", before), changed(sec), false},
		{of("if-modified-SINCE", second), changed(sec), true}, {of("If-Modified-Since", second), changed(sec + 1), false}, {of("If-Modified-Since", third), changed(sec), true}, {of("If-Modified-Since", third), changed(sec + 1), false},
		{of("If-Modified-Since", first), both(strong("a"), sec), true}, {of("If-Modified-Since", first), both(strong("a"), sec+1), false},
		{of("If-Modified-Since", "Thu, 01 Jan 1970 00:00:00 GMT"), changed(0), true}, {of("If-Modified-Since", "Thu, 01 Jan 1970 00:00:00 GMT"), changed(1), false}, {of("If-Modified-Since", "Thu, 01 Jan 1970 00:00:00 GMT"), changed(-1), true}, {of("If-Modified-Since", "Thu, 01 Jan 1970 00:00:00 GMT"), changed(math.MinInt64), true},
		{of("If-Modified-Since", "Fri, 31 Dec 9999 23:59:59 GMT"), changed(api.MaxTime), true}, {of("If-Modified-Since", "Fri, 31 Dec 9999 23:59:59 GMT"), changed(api.MaxTime + 1), false}, {of("If-Modified-Since", "Fri, 31 Dec 9999 23:59:59 GMT"), changed(math.MaxInt64), false},
		// The response has no time of its last change.
		{of("If-Modified-Since", after), api.Checks{}, false}, {of("If-Modified-Since", after), api.Checks{Last: sec}, false}, {of("If-Modified-Since", after), tagged(strong("a")), false},
		// More than one, or not a time.
		{of("If-Modified-Since", first, "If-Modified-Since", first), changed(sec), false}, {of("If-Modified-Since", after, "X", "", "if-modified-since", ""), changed(sec), false}, {of("If-Modified-Since", "x", "If-Modified-Since", first), changed(sec), false},
		{of("If-Modified-Since", ""), changed(sec), false}, {of("If-Modified-Since", "x"), changed(0), false}, {of("If-Modified-Since", "9999999999"), changed(0), false}, {of("If-Modified-Since", first+" "), changed(0), false}, {of("If-Modified-Since", "Mon, 06 Nov 1994 08:49:37 GMT"), changed(0), false}, {of("If-Modified-Since", "*"), changed(0), false},
		// Other names.
		{of("If-Unmodified-Since", first, "If-Modified", first, " If-Modified-Since", first, "Last-Modified", first, "Date", first, "If-Range", first), changed(sec), false}, {nil, changed(0), false},
	} {
		if got := etag.Unchanged(x.asked, x.c, now); got != x.want {
			t.Errorf("Unchanged(%q, %+v) = %v", x.asked, x.c, got)
		}
	}
}

// P11.2: the request for a check.
func TestAsk(t *testing.T) {
	for _, x := range []struct {
		l    []api.Field
		c    api.Checks
		want []api.Field
	}{
		{nil, api.Checks{}, nil}, {of("A", "1", "a", "2"), api.Checks{}, of("A", "1", "a", "2")},
		{nil, tagged(strong("a")), of("If-None-Match", `"a"`)}, {nil, tagged(weak(`\,`)), of("If-None-Match", `W/"\,"`)}, {nil, tagged(api.Tag{}), of("If-None-Match", `""`)},
		{nil, changed(sec), of("If-Modified-Since", first)}, {nil, changed(0), of("If-Modified-Since", "Thu, 01 Jan 1970 00:00:00 GMT")}, {nil, changed(api.MaxTime), of("If-Modified-Since", "Fri, 31 Dec 9999 23:59:59 GMT")},
		{of("A", "1"), both(strong("a"), sec), of("A", "1", "If-None-Match", `"a"`, "If-Modified-Since", first)},
		{
			of("Host", "h", "If-Match", "1", "A", "2", "If-None-Match", "3", "If-Modified-Since", "4", "B", "5", "If-Unmodified-Since", "6", "If-Range", "7", "Range", "8", "C", "9"), both(weak("a"), sec),
			of("Host", "h", "A", "2", "B", "5", "C", "9", "If-None-Match", `W/"a"`, "If-Modified-Since", first),
		},
		{of("IF-MATCH", "", "range", "", "if-none-match", "", "IF-modified-since", "", "iF-uNMODIFIED-sINCE", "", "if-RANGE", "", "Range", "", "x", ""), api.Checks{}, of("x", "")},
		{of("If-None-Match", `"a"`, "If-None-Match", `"b"`, "If-Modified-Since", after, "If-Modified-Since", after), changed(sec), of("If-Modified-Since", first)},
		{of("If-None-Match", `"x"`, "If-Modified-Since", after), tagged(strong("a")), of("If-None-Match", `"a"`)},
		{of("If-None", "1", "Match", "2", "If", "3", "Ranges", "4", "Range ", "5", "If_Range", "6", "Accept-Ranges", "7", "Content-Range", "8", "ETag", "9", "Last-Modified", "10", "", ""), api.Checks{}, of("If-None", "1", "Match", "2", "If", "3", "Ranges", "4", "Range ", "5", "If_Range", "6", "Accept-Ranges", "7", "Content-Range", "8", "ETag", "9", "Last-Modified", "10", "", "")},
		// Not there, whatever stands in their places.
		{of("A", "1"), api.Checks{Tag: strong("a"), Last: sec}, of("A", "1")}, {nil, api.Checks{Tag: strong("a"), Last: sec, HasLast: true}, of("If-Modified-Since", first)}, {nil, api.Checks{Tag: strong("a"), HasTag: true, Last: sec}, of("If-None-Match", `"a"`)},
		// What has no text is left out, the other is not.
		{of("A", "1"), tagged(strong(`a"`)), of("A", "1")}, {nil, tagged(weak(" ")), nil}, {nil, both(strong("\x7f"), sec), of("If-Modified-Since", first)},
		{of("A", "1"), changed(-1), of("A", "1")}, {nil, changed(api.MaxTime + 1), nil}, {nil, changed(math.MinInt64), nil}, {nil, changed(math.MaxInt64), nil}, {nil, both(strong("a"), -1), of("If-None-Match", `"a"`)}, {nil, both(strong(`"`), -1), nil},
		{of("If-None-Match", `"x"`, "If-Modified-Since", after), both(strong(`"`), -1), nil},
		// Fields that are not valid stay as they are.
		{of("a b", "\r\n", "", " x ", "If-None-Match:", "\x00"), tagged(strong("a")), of("a b", "\r\n", "", " x ", "If-None-Match:", "\x00", "If-None-Match", `"a"`)},
	} {
		if got := etag.Ask(x.l, x.c); !slices.Equal(got, x.want) {
			t.Errorf("Ask(%q, %+v) = %q, want %q", x.l, x.c, got, x.want)
		}
	}
}

// P11.3: what Ask adds reports what it was made of as unchanged, whenever it is asked.
func TestUnchangedOfAsk(t *testing.T) {
	l := of("If-None-Match", `"x"`, "A", "1", "If-Modified-Since", before, "if-none-match", "*", "IF-MODIFIED-SINCE", "x")
	const rest = 1
	var tags []api.Tag
	for _, value := range append(texts("W/\"\\,* \xff", 3), "", "x", `\\\`, "a,b,,c", `,\`, "é") {
		tags = append(tags, strong(value), weak(value))
	}
	times := []int64{math.MinInt64, -1, 0, 1, sec, now, 2335219200, api.MaxTime - 1, api.MaxTime, api.MaxTime + 1, math.MaxInt64}
	added := 0
	check := func(c api.Checks) {
		asked := etag.Ask(l, c)
		for _, x := range [][]api.Field{asked, asked[rest:], etag.Ask(nil, c)} {
			for _, at := range []int64{math.MinInt64, 0, now, math.MaxInt64} {
				if got := etag.Unchanged(x, c, at); got != (len(asked) > rest) {
					t.Fatalf("Unchanged(%q, %+v, %d) = %v", x, c, at, got)
				}
			}
		}
		added += len(asked) - rest
	}
	for _, tag := range tags {
		check(tagged(tag))
		for _, at := range times {
			check(both(tag, at))
		}
	}
	for at := int64(-1); at <= api.MaxTime+1; at += 1 + at/1000*7 {
		check(changed(at))
	}
	for _, at := range times {
		check(changed(at))
	}
	if added < 1000 {
		t.Errorf("only %d fields were added", added)
	}
}

func TestLongLists(t *testing.T) {
	var l []api.Field
	for i := range 1 << 16 {
		l = append(l, api.Field{Name: "X" + strconv.Itoa(i%7), Value: "1"}, api.Field{Name: token.Lower("If-None-Match"), Value: `"a", W/"` + strconv.Itoa(i) + `"`})
	}
	c := tagged(strong("65535"))
	if !etag.Unchanged(l, c, now) || etag.Unchanged(l, tagged(strong("65536")), now) {
		t.Error("Unchanged")
	}
	if asked := etag.Ask(l, c); len(asked) != 1<<16+1 || asked[1<<16] != (api.Field{Name: "If-None-Match", Value: `"65535"`}) {
		t.Errorf("%d fields", len(asked))
	}
	if got := etag.Of(l, now); got != (api.Checks{}) {
		t.Errorf("%+v", got)
	}
}
