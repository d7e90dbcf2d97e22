package etag_test

import (
	"slices"
	"strings"
	"testing"

	"halfwayhouse/api"
	"halfwayhouse/etag"
)

func strong(value string) api.Tag { return api.Tag{Value: value} }
func weak(value string) api.Tag   { return api.Tag{Weak: true, Value: value} }

// tagByte reports whether c can stand between the quotes of a tag, as the terms say.
func tagByte(c int) bool { return c == 33 || c >= 35 && c <= 126 || c >= 128 && c <= 255 }

// P11.1: tags.
func TestParse(t *testing.T) {
	for _, x := range []struct {
		s string
		t api.Tag
	}{
		{`"a"`, strong("a")}, {`W/"a"`, weak("a")}, {`""`, strong("")}, {`W/""`, weak("")},
		{`"W/"`, strong("W/")}, {`W/"W/"`, weak("W/")}, {`"*"`, strong("*")}, {`"\"`, strong(`\`)}, {`"a\\b"`, strong(`a\\b`)}, {`"a,b"`, strong("a,b")},
		{`"xyzzy"`, strong("xyzzy")}, {`"5f-\xff"`, strong(`5f-\xff`)}, {"\"!#~\x80\xff\"", strong("!#~\x80\xff")}, {`"é€"`, strong("é€")},
	} {
		if got, e := etag.Parse(x.s); got != x.t || e != api.OK {
			t.Errorf("Parse(%q) = %+v, %d", x.s, got, e)
		}
	}
	for _, s := range []string{
		"", `"`, "a", "W", "W/", `W/"`, `W"`, "*", `"a`, `a"`, `W/"a`, `W/a`, `W/a"`, "W/W/", `W/W/"a"`,
		`w/"a"`, `W"a"`, `/"a"`, `W\"a"`, `W /"a"`, `W/ "a"`, `V/"a"`, `WW/"a"`, `W//"a"`, `"a"W/`, `"a"/W`,
		`"a" `, ` "a"`, "\t\"a\"", "\"a\"\r\n", `"a b"`, "\"a\tb\"", "\"\x00\"", "\"\x1f\"", "\"\x7f\"", "\"\n\"",
		`"a"b"`, `"""`, `""""`, `W/"""`, `"a\"b"`, `"a""b"`, `"a","b"`, `"a", "b"`, `"a",`, `,"a"`, `'a'`, "“a”",
	} {
		if got, e := etag.Parse(s); got != (api.Tag{}) || e != api.ErrBad {
			t.Errorf("Parse(%q) = %+v, %d", s, got, e)
		}
	}
}

// P11.1: each byte between the quotes, and in place of each byte around them.
func TestTagsOfEveryByte(t *testing.T) {
	for c := range 256 {
		b := string([]byte{byte(c)})
		for _, value := range []string{b, "x" + b, b + "x", "x" + b + "y", b + b} {
			for _, isWeak := range []bool{false, true} {
				tag, text, e := api.Tag{Weak: isWeak, Value: value}, `"`+value+`"`, api.OK
				if isWeak {
					text = "W/" + text
				}
				wantTag, wantText := tag, text
				if !tagByte(c) {
					wantTag, wantText, e = api.Tag{}, "", api.ErrBad
				}
				if got, d := etag.Parse(text); got != wantTag || d != e {
					t.Errorf("Parse(%q) = %+v, %d", text, got, d)
				}
				if got, d := etag.Text(tag); got != wantText || d != e {
					t.Errorf("Text(%+v) = %q, %d", tag, got, d)
				}
			}
		}
		const text = `W/"ab"`
		for i := range len(text) {
			edit := text[:i] + b + text[i+1:]
			if _, e := etag.Parse(edit); (e == api.OK) != (b == text[i:i+1] || tagByte(c) && (i == 3 || i == 4)) {
				t.Errorf("Parse(%q): %d", edit, e)
			}
		}
	}
}

// P11.1: texts.
func TestText(t *testing.T) {
	for _, x := range []struct {
		t api.Tag
		s string
	}{
		{api.Tag{}, `""`}, {strong("a"), `"a"`}, {weak("a"), `W/"a"`}, {weak(""), `W/""`}, {strong("W/"), `"W/"`}, {strong(`\`), `"\"`}, {strong(",*"), `",*"`}, {weak("\xff"), "W/\"\xff\""},
	} {
		if s, e := etag.Text(x.t); s != x.s || e != api.OK {
			t.Errorf("Text(%+v) = %q, %d", x.t, s, e)
		}
	}
	for _, value := range []string{`"`, `"a"`, `a"`, " ", "a b", "a ", " a", "\t", "\r\n", "a\x00", "\x7f", `W/"a"`} {
		for _, tag := range []api.Tag{strong(value), weak(value)} {
			if s, e := etag.Text(tag); s != "" || e != api.ErrBad {
				t.Errorf("Text(%+v) = %q, %d", tag, s, e)
			}
		}
	}
}

// P11.1: the tags of values.
func TestTags(t *testing.T) {
	for _, x := range []struct {
		l    []string
		tags []api.Tag
	}{
		{[]string{`"a"`}, []api.Tag{strong("a")}},
		{[]string{`"a", W/"b"`}, []api.Tag{strong("a"), weak("b")}},
		{[]string{`"a"`, `W/"b" ,"c"`}, []api.Tag{strong("a"), weak("b"), strong("c")}},
		{[]string{`,, W/"b",	"b" , ,`, "", " , ", `"a"`}, []api.Tag{weak("b"), strong("b"), strong("a")}},
		{[]string{`"a"`, `"a"`, `W/"a"`}, []api.Tag{strong("a"), strong("a"), weak("a")}},
		{[]string{`"a,b"`, `W/","`}, []api.Tag{strong("a,b"), weak(",")}},
		{[]string{`"*"`}, []api.Tag{strong("*")}},
		{[]string{`"",W/""`}, []api.Tag{strong(""), weak("")}},
		{[]string{`"a\"`, `"b"`}, []api.Tag{strong(`a\`), strong("b")}}, // what an open quoted string takes in ends with its value
		{[]string{`"b", W/"a\"`}, []api.Tag{strong("b"), weak(`a\`)}},
		{[]string{`"a\b,c", "d"`}, []api.Tag{strong(`a\b,c`), strong("d")}},
		{[]string{`"\\", "d"`}, []api.Tag{strong(`\\`), strong("d")}},
	} {
		if tags, star, e := etag.Tags(x.l); !slices.Equal(tags, x.tags) || star || e != api.OK {
			t.Errorf("Tags(%q) = %+v, %v, %d", x.l, tags, star, e)
		}
	}
	for _, l := range [][]string{{"*"}, {" * "}, {",*,"}, {"", "*"}, {"*", "", " ,"}, {"\t", ", *\t,,"}} {
		if tags, star, e := etag.Tags(l); len(tags) != 0 || !star || e != api.OK {
			t.Errorf("Tags(%q) = %+v, %v, %d", l, tags, star, e)
		}
	}
	for _, l := range [][]string{
		nil, {}, {""}, {"", ""}, {" ", ",", "\t, ,"}, // no part
		{"*, *"}, {"*", "*"}, {`*, "a"`}, {`"a", *`}, {`"a"`, "*"}, {"*", `W/"a"`}, {"**"}, {"W/*"}, {"*a"}, {"* *"}, // a star is none of several parts
		{"a"}, {`"a`}, {`W/`}, {`w/"a"`}, {`"a b"`}, {`"a" "b"`}, {`"a";"b"`}, {`W/ "a"`}, {`W/,"a"`}, {`"`}, {"\x00"}, {`""a""`},
		{`"a", b`}, {`b, "a"`}, {`"a"`, "b"}, {"b", `"a"`}, {`"a"`, `"b", "c`, `"d"`}, {`"a"`, "", "\r"},
		{`"a\", "b"`}, // the \ takes the " with it, so this is one part
	} {
		if tags, star, e := etag.Tags(l); len(tags) != 0 || star || e != api.ErrBad {
			t.Errorf("Tags(%q) = %+v, %v, %d", l, tags, star, e)
		}
	}
}

// P11.1: which tags match.
func TestStrongAndWeak(t *testing.T) {
	for _, x := range []struct {
		a, b         api.Tag
		strong, weak bool
	}{
		{weak("1"), weak("1"), false, true}, {weak("1"), weak("2"), false, false}, {weak("1"), strong("1"), false, true}, {strong("1"), strong("1"), true, true},
		{strong("1"), strong("2"), false, false}, {strong("1"), weak("2"), false, false}, {weak(""), strong(""), false, true}, {api.Tag{}, api.Tag{}, true, true}, {weak(""), weak(""), false, true},
		{strong("a"), strong("A"), false, false}, {strong("a"), strong("ab"), false, false}, {strong("a"), strong("a "), false, false}, {strong("*"), strong("a"), false, false},
		{strong(`"`), strong(`"`), true, true}, {weak("a b"), strong("a b"), false, true}, {strong("\xc0"), strong("\xe0"), false, false}, {strong("W/"), weak(""), false, false},
	} {
		for range 2 {
			if got := etag.Strong(x.a, x.b); got != x.strong {
				t.Errorf("Strong(%+v, %+v) = %v", x.a, x.b, got)
			}
			if got := etag.Weak(x.a, x.b); got != x.weak {
				t.Errorf("Weak(%+v, %+v) = %v", x.a, x.b, got)
			}
			x.a, x.b = x.b, x.a
		}
	}
}

// P11.3: Text and Parse are inverse to each other.
func TestTextOfParse(t *testing.T) {
	good := 0
	for _, s := range texts("W/\"w \\,\xff", 6) {
		if tag, e := etag.Parse(s); e == api.OK {
			good++
			if again, d := etag.Text(tag); again != s || d != api.OK {
				t.Fatalf("Text of Parse(%q) = %q, %d", s, again, d)
			}
		}
		for _, tag := range []api.Tag{strong(s), weak(s)} {
			text, e := etag.Text(tag)
			if e != api.OK {
				continue
			}
			if again, d := etag.Parse(text); again != tag || d != api.OK {
				t.Fatalf("Parse of Text(%+v) = %+v, %d", tag, again, d)
			}
			if tags, star, d := etag.Tags([]string{text}); !slices.Equal(tags, []api.Tag{tag}) || star || d != api.OK {
				t.Fatalf("Tags of Text(%+v) = %+v, %v, %d", tag, tags, star, d)
			}
		}
	}
	if good < 1000 {
		t.Errorf("only %d texts of tags", good)
	}
}

// P11.1: any number of tags, and then a star or what is no tag.
func TestTagsOfEveryCount(t *testing.T) {
	var l []string
	var want []api.Tag
	for i := range 300 {
		value := strings.Repeat("a", i%5)
		l, want = append(l, `"`+value+`"`), append(want, strong(value))
		for _, values := range [][]string{l, {strings.Join(l, ", ")}} {
			if tags, star, e := etag.Tags(values); !slices.Equal(tags, want) || star || e != api.OK {
				t.Errorf("%d tags: %d, %v, %d", i+1, len(tags), star, e)
			}
			for _, last := range []string{"*", "a"} {
				if tags, star, e := etag.Tags(append(slices.Clone(values), last)); len(tags) != 0 || star || e != api.ErrBad {
					t.Errorf("%d tags and %s: %d, %v, %d", i+1, last, len(tags), star, e)
				}
			}
		}
	}
}

func TestLongTags(t *testing.T) {
	value := strings.Repeat(`a,\b`, 1<<18)
	text, e := etag.Text(weak(value))
	if tag, d := etag.Parse(text); e != api.OK || d != api.OK || tag != weak(value) {
		t.Errorf("%d, %d", e, d)
	}
	many := strings.Repeat(`"a", W/"b",`, 1<<17)
	if tags, _, e := etag.Tags([]string{many, many}); e != api.OK || len(tags) != 1<<19 || tags[1<<19-1] != weak("b") {
		t.Errorf("%d tags, %d", len(tags), e)
	}
	if tags, _, e := etag.Tags([]string{many, "x"}); e != api.ErrBad || len(tags) != 0 {
		t.Errorf("%d tags, %d", len(tags), e)
	}
}
