package control_test

import (
	"iter"
	"slices"
	"strings"
	"testing"

	"halfwayhouse/api"
	"halfwayhouse/control"
)

// pairs collects what a sequence yields: name and text in turn.
func pairs(seq iter.Seq2[string, string]) []string {
	var l []string
	for name, text := range seq {
		l = append(l, name, text)
	}
	return l
}

// P10.1: the directives.
func TestEach(t *testing.T) {
	for _, x := range []struct {
		l    []string
		want []string
	}{
		{nil, nil}, {[]string{}, nil}, {[]string{""}, nil}, {[]string{",, ,\t"}, nil},
		{[]string{`max-age=5, MAX-AGE=3, no-cache="x"`}, []string{"max-age", "5", "max-age", "3", "no-cache", "x"}},
		{[]string{"a", "b=1", "", "c, A"}, []string{"a", "", "b", "1", "c", "", "a", ""}}, // the order of values, names more than once
		{[]string{"a=", `b=""`, "c"}, []string{"a", "", "b", "", "c", ""}},
		{[]string{`a="b, c=d", e`}, []string{"a", "b, c=d", "e", ""}},
		{[]string{`a="b\"\\\c"`}, []string{"a", `b"\c`}},
		{[]string{"Ab=Cd"}, []string{"ab", "Cd"}}, // the text keeps its case
		{[]string{"a==b", "c=d=e", "f=="}, []string{"a", "=b", "c", "d=e", "f", "="}},
		{[]string{"a==\"b\""}, []string{"a", `="b"`}},
		// No quoted string, so it is as it was.
		{[]string{`a="b`, `c="d"e`, `f=g"h"`, "i=\"\x00\"", `j="`, `k="\"`}, []string{"a", `"b`, "c", `"d"e`, "f", `g"h"`, "i", "\"\x00\"", "j", `"`, "k", `"\"`}},
		{[]string{`a="b`, "c"}, []string{"a", `"b`, "c", ""}}, // what a value leaves open ends with it
		{[]string{`a="b`, `c"`}, []string{"a", `"b`}},
		// Blanks beside the = belong to the name and to the text.
		{[]string{"\ta=b ", "c= d", "e=\tf", `g= "h"`}, []string{"a", "b", "c", " d", "e", "\tf", "g", ` "h"`}},
		// The name is no token.
		{[]string{"=", "=a", `"a"`, `"a"=b`, "a b", "a =b", "a\t=b", "a;b", "a:b", "a/b=c", "(a)", "a\x00", "\x80=1", "é", "a\r\n", "[a=b]"}, nil},
		{[]string{"b, =a, c d, e"}, []string{"b", "", "e", ""}},
		{[]string{"!#$%&'*+-.^_`|~09AZaz=\x00\xff"}, []string{"!#$%&'*+-.^_`|~09azaz", "\x00\xff"}},
		{[]string{"max-age", "unknown=1"}, []string{"max-age", "", "unknown", "1"}}, // whatever Parse makes of them
	} {
		if got := pairs(control.Each(x.l)); !slices.Equal(got, x.want) {
			t.Errorf("Each(%q) = %q", x.l, got)
		}
	}
}

// It may be left early, and gone through again from the beginning, also while it is being gone through.
func TestEachYieldsAgain(t *testing.T) {
	seq := control.Each([]string{"a=1, b=2", "c=3"})
	for end := range 4 {
		calls := 0
		seq(func(string, string) bool { calls++; return calls <= end })
		if calls != min(end+1, 3) {
			t.Errorf("%d calls, the end asked for after %d", calls, end)
		}
	}
	next, stop := iter.Pull2(seq)
	defer stop()
	next()
	for range 2 {
		if got := pairs(seq); !slices.Equal(got, []string{"a", "1", "b", "2", "c", "3"}) {
			t.Errorf("%q", got)
		}
	}
	if name, text, ok := next(); name != "b" || text != "2" || !ok {
		t.Errorf("%q, %q, %t", name, text, ok)
	}
}

// P10.1: each number, from one directive.
func TestParseOfANumber(t *testing.T) {
	const zero, ignored = 0, -1
	zeros := strings.Repeat("0", 1000)
	for _, x := range []struct {
		text   string
		age    int64 // for max-age and s-maxage
		others int64
	}{
		{"=0", 0, 0}, {"=1", 1, 1}, {"=60", 60, 60}, {"=007", 7, 7}, {"=" + zeros, 0, 0}, {"=" + zeros + "9", 9, 9},
		{"=2147483647", api.MaxDelta - 1, api.MaxDelta - 1}, {"=2147483648", api.MaxDelta, api.MaxDelta}, {"=2147483649", api.MaxDelta, api.MaxDelta},
		{"=4294967295", api.MaxDelta, api.MaxDelta}, {"=4294967296", api.MaxDelta, api.MaxDelta}, {"=4294967297", api.MaxDelta, api.MaxDelta},
		{"=9007199254740991", api.MaxDelta, api.MaxDelta}, {"=9007199254740992", api.MaxDelta, api.MaxDelta},
		{"=9223372036854775808", api.MaxDelta, api.MaxDelta}, {"=18446744073709551617", api.MaxDelta, api.MaxDelta}, {"=1" + zeros, api.MaxDelta, api.MaxDelta},
		{`="5"`, 5, 5}, {`="\5\6"`, 56, 56}, {`="99999999999999999999"`, api.MaxDelta, api.MaxDelta}, // unquoted
		{"=", zero, ignored}, {`=""`, zero, ignored}, {"=x", zero, ignored}, {"=-1", zero, ignored}, {"=+1", zero, ignored}, {"=5s", zero, ignored},
		{"=1.5", zero, ignored}, {"=1e3", zero, ignored}, {"=0x5", zero, ignored}, {"=5 6", zero, ignored}, {"= 5", zero, ignored}, {`=" 5"`, zero, ignored},
		{`="5`, zero, ignored}, {`="5"6`, zero, ignored}, {"==5", zero, ignored}, {"=5=6", zero, ignored}, {"='5'", zero, ignored}, {"=٣", zero, ignored},
		{"=99999999999999999999x", zero, ignored}, {"=5;", zero, ignored}, {"=\x00", zero, ignored},
	} {
		for _, n := range numbered {
			for _, name := range []string{n.name, strings.ToUpper(n.name), strings.ToUpper(n.name[:1]) + n.name[1:]} {
				want := nothing()
				*n.place(&want) = x.others
				if n.name == "max-age" || n.name == "s-maxage" {
					*n.place(&want) = x.age
				}
				for _, l := range [][]string{{name + x.text}, {" ,\t" + name + x.text + "\t"}, {"x=1", name + x.text}} {
					if got := control.Parse(l); got != want {
						t.Errorf("Parse(%.60q) = %+v", l, got)
					}
				}
			}
		}
	}
}

// P10.1: without =, and with an = that nothing belongs to.
func TestParseWithoutText(t *testing.T) {
	for _, x := range []struct {
		s    string
		want api.Control
	}{
		{"max-age", of(func(c *api.Control) { c.MaxAge = 0 })},
		{"s-maxage", of(func(c *api.Control) { c.SMaxAge = 0 })},
		{"max-stale", of(func(c *api.Control) { c.MaxStale = api.MaxDelta })},
		{"MAX-STALE", of(func(c *api.Control) { c.MaxStale = api.MaxDelta })},
		{"max-stale=", nothing()}, {`max-stale=""`, nothing()}, {"max-stale =5", nothing()}, {"max-stale =", nothing()},
		{"min-fresh", nothing()}, {"stale-while-revalidate", nothing()}, {"stale-if-error", nothing()},
		{"max-age =5", nothing()}, // the name is no token
	} {
		if got := control.Parse([]string{x.s}); got != x.want {
			t.Errorf("Parse(%q) = %+v", x.s, got)
		}
	}
}

// P10.1: each flag, whatever its text; nothing else is set.
func TestParseOfAFlag(t *testing.T) {
	for _, f := range flagged {
		want := nothing()
		*f.place(&want) = true
		for _, text := range []string{"", "=", "=0", "=1", "=false", "=x", `="x"`, `="a, b=c"`, `=""`, `="`, "==", "=99999999999999999999", "=\x00", "= x"} {
			for _, name := range []string{f.name, strings.ToUpper(f.name), strings.ToUpper(f.name[:1]) + f.name[1:]} {
				if got := control.Parse([]string{"x, " + name + text}); got != want {
					t.Errorf("Parse(%q) = %+v", name+text, got)
				}
			}
		}
	}
}

// P10.1: all others are ignored.
func TestParseOfOthers(t *testing.T) {
	for _, s := range []string{
		"", ",", "x", "immutable", "community=UCI", "max-age-=5", "maxage=5", "max_age=5", "s-max-age=5", "smaxage=5", "no-caches", "nocache", "no-cach", "only-if-cache",
		"stale-while-revalidation=5", "must-revalidates", "privat", "publi", "x-private", "no-cache no-store", "max-age 5", "max-age:5", "max-age;5", "private;x",
		`"no-cache"`, `"max-age=5"`, `x="no-cache, max-age=5"`, `x="no-store`, `"no-store`, "=no-store", "max\u2010age=5", "\u017f-maxage=5", "no-\u0441ache", "no-\uff43ache",
		"no-store\x00", "\x00no-store", "no-store\r\n", "no store",
	} {
		if got := control.Parse([]string{s}); got != nothing() {
			t.Errorf("Parse(%q) = %+v", s, got)
		}
	}
	if control.Parse(nil) != nothing() || control.Parse([]string{}) != nothing() || control.Parse(make([]string, 9)) != nothing() {
		t.Error("no values say something")
	}
}

// P10.1: a name that occurs several times, in one value and in several.
func TestParseOfSeveral(t *testing.T) {
	for _, x := range []struct {
		s    string
		want api.Control
	}{
		{`max-age=5, MAX-AGE=3, no-cache="x"`, of(func(c *api.Control) { c.MaxAge, c.NoCache = 3, true })},
		{"max-age=3, max-age=5", of(func(c *api.Control) { c.MaxAge = 3 })},
		{"max-age=5, max-age=x", of(func(c *api.Control) { c.MaxAge = 0 })}, // a wrong one is 0, and so the smallest
		{"max-age, max-age=5", of(func(c *api.Control) { c.MaxAge = 0 })},
		{"s-maxage=9, s-maxage=, s-maxage=8", of(func(c *api.Control) { c.SMaxAge = 0 })},
		{"max-stale=3, max-stale=5, max-stale=4", of(func(c *api.Control) { c.MaxStale = 5 })},
		{"max-stale, max-stale=5", of(func(c *api.Control) { c.MaxStale = api.MaxDelta })},
		{"max-stale=5, max-stale", of(func(c *api.Control) { c.MaxStale = api.MaxDelta })},
		{"max-stale=5, max-stale=x, max-stale=", of(func(c *api.Control) { c.MaxStale = 5 })},
		{"max-stale=0, max-stale=x", of(func(c *api.Control) { c.MaxStale = 0 })},
		{"min-fresh=5, min-fresh=3, min-fresh=4", of(func(c *api.Control) { c.MinFresh = 3 })},
		{"min-fresh=x, min-fresh=3", of(func(c *api.Control) { c.MinFresh = 3 })}, // a wrong one is ignored
		{"min-fresh=3, min-fresh", of(func(c *api.Control) { c.MinFresh = 3 })},
		{"stale-while-revalidate=99999999999, stale-while-revalidate=7", of(func(c *api.Control) { c.StaleWhile = 7 })},
		{"stale-if-error=0, stale-if-error=7", of(func(c *api.Control) { c.StaleIfError = 0 })},
		{"no-store, no-store=x, public, private", of(func(c *api.Control) { c.NoStore, c.Public, c.Private = true, true, true })},
		{"max-age=1, s-maxage=2, max-stale=3, min-fresh=4, stale-while-revalidate=5, stale-if-error=6", api.Control{MaxAge: 1, SMaxAge: 2, MaxStale: 3, MinFresh: 4, StaleWhile: 5, StaleIfError: 6}},
	} {
		for _, l := range [][]string{{x.s}, strings.Split(x.s, ", "), {strings.ReplaceAll(x.s, " ", "")}, {"", x.s, "x"}, {x.s, x.s}} {
			if got := control.Parse(l); got != x.want {
				t.Errorf("Parse(%q) = %+v", l, got)
			}
		}
	}
}

// What is long takes no longer than its length.
func TestLongValues(t *testing.T) {
	const many = 100000
	l := make([]string, many)
	for i := range l {
		l[i] = `max-age=7, x="\"`
	}
	c := control.Parse(append(l, strings.Repeat("no-cache, min-fresh=5,", many), "max-age="+strings.Repeat("9", many), strings.Repeat(`"`, many)))
	if want := of(func(c *api.Control) { c.MaxAge, c.MinFresh, c.NoCache = 7, 5, true }); c != want {
		t.Errorf("%+v", c)
	}
	if n := len(pairs(control.Each(l))); n != 4*many {
		t.Errorf("%d names and texts", n)
	}
}
