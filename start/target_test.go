package start_test

import (
	"strings"
	"testing"

	"halfwayhouse/api"
	"halfwayhouse/start"
)

type target struct {
	method, s string
	form      int
	host      string
	path      string
}

// P3.2: the targets of requests; those of form 0 are none.
func TestTarget(t *testing.T) {
	digits := strings.Repeat("1", 100000)
	for _, x := range []target{
		{"GET", "/", api.FormOrigin, "", "/"},
		{"GET", "/A?b=C", api.FormOrigin, "", "/A?b=C"},
		{"GET", "//a/b", api.FormOrigin, "", "//a/b"},
		{"GET", "/http://a/", api.FormOrigin, "", "/http://a/"},
		{"OPTIONS", "/*", api.FormOrigin, "", "/*"},
		{"", "/", api.FormOrigin, "", "/"},
		{"no method", "/\"<>\\^`{|}[]@", api.FormOrigin, "", "/\"<>\\^`{|}[]@"},
		{"OPTIONS", "*", api.FormAsterisk, "", ""},
		{"GET", "*", 0, "", ""},
		{"options", "*", 0, "", ""},
		{"CONNECT", "*", 0, "", ""},
		{"", "*", 0, "", ""},
		{"OPTIONS", "**", 0, "", ""},
		{"OPTIONS", "*/", 0, "", ""},

		{"GET", "http://A?x", api.FormAbsolute, "a", "/?x"},
		{"GET", "http://a", api.FormAbsolute, "a", "/"},
		{"GET", "http://a/", api.FormAbsolute, "a", "/"},
		{"GET", "hTtP://WWW.Example.COM:80/A/B?C", api.FormAbsolute, "www.example.com:80", "/A/B?C"},
		{"OPTIONS", "HTTP://a", api.FormAbsolute, "a", "/"},
		{"GET", "http://a?", api.FormAbsolute, "a", "/?"},
		{"GET", "http://a??/", api.FormAbsolute, "a", "/??/"},
		{"GET", "http://a/?", api.FormAbsolute, "a", "/?"},
		{"GET", "http://a//b", api.FormAbsolute, "a", "//b"},
		{"GET", "http://a/http://b", api.FormAbsolute, "a", "/http://b"},
		{"GET", "http://a?b/c:d@[e]", api.FormAbsolute, "a", "/?b/c:d@[e]"},
		{"GET", "http://a:/x", api.FormAbsolute, "a:", "/x"},
		{"GET", "http://[FE80::1]:65535?x", api.FormAbsolute, "[fe80::1]:65535", "/?x"},
		{"GET", "http://[.]", api.FormAbsolute, "[.]", "/"},
		{"GET", "http://*", api.FormAbsolute, "*", "/"},
		{"connect", "http://a", api.FormAbsolute, "a", "/"},
		{"GET", "http://", 0, "", ""},
		{"GET", "http:///", 0, "", ""},
		{"GET", "http://?a", 0, "", ""},
		{"GET", "http://:80/", 0, "", ""},
		{"GET", "http://a:123456/", 0, "", ""},
		{"GET", "http://a:8x/", 0, "", ""},
		{"GET", "http://a:80:80/", 0, "", ""},
		{"GET", "http://u@a/", 0, "", ""},
		{"GET", "http://[::g]/", 0, "", ""},
		{"GET", "http://[::1/", 0, "", ""},
		{"GET", "http://[/]", 0, "", ""},
		{"GET", "http://a\\b/", 0, "", ""},
		{"GET", "http:/a", 0, "", ""},
		{"GET", "http:a", 0, "", ""},
		{"GET", "http//a", 0, "", ""},
		{"GET", "http", 0, "", ""},
		{"GET", "h", 0, "", ""},
		{"GET", "https://a/", 0, "", ""},
		{"GET", "ftp://a/", 0, "", ""},
		{"GET", "xhttp://a/", 0, "", ""},
		{"GET", "a", 0, "", ""},
		{"GET", "a:80", 0, "", ""}, // only CONNECT has it
		{"GET", "?a", 0, "", ""},
		{"GET", ".", 0, "", ""},

		{"CONNECT", "A:1", api.FormAuthority, "a:1", ""},
		{"CONNECT", "a:00000", api.FormAuthority, "a:00000", ""},
		{"CONNECT", "a:99999", api.FormAuthority, "a:99999", ""},
		{"CONNECT", "[FE80::1]:443", api.FormAuthority, "[fe80::1]:443", ""},
		{"CONNECT", "*:1", api.FormAuthority, "*:1", ""},
		{"CONNECT", "a", 0, "", ""},
		{"CONNECT", "a1", 0, "", ""},
		{"CONNECT", "a:", 0, "", ""},
		{"CONNECT", "[::1]", 0, "", ""}, // the colons in it begin no port
		{"CONNECT", "[::1]:", 0, "", ""},
		{"CONNECT", "::1", 0, "", ""},
		{"CONNECT", ":1", 0, "", ""},
		{"CONNECT", "a:123456", 0, "", ""},
		{"CONNECT", "a:000001", 0, "", ""},
		{"CONNECT", "a:1/", 0, "", ""},
		{"CONNECT", "a:+1", 0, "", ""},
		{"CONNECT", "a:1:1", 0, "", ""},
		{"CONNECT", "a:" + digits, 0, "", ""},
		{"CONNECT", "/", 0, "", ""},
		{"CONNECT", "/a:1", 0, "", ""},
		{"CONNECT", "http://a:1", 0, "", ""},
		{"CONNECT", "http://a:1/", 0, "", ""},
		{"connect", "a:1", 0, "", ""},
		{"Connect", "a:1", 0, "", ""},
		{"CONNECT ", "a:1", 0, "", ""},
	} {
		want, status := api.Target{Form: x.form, Host: x.host, Path: x.path}, 0
		if x.form == 0 {
			status = 400
		}
		if got, code := start.Target(x.method, x.s); got != want || code != status {
			t.Errorf("Target(%q, %.40q) = %#v, %d", x.method, x.s, got, code)
		}
	}
}

var methods = []string{"GET", "CONNECT", "OPTIONS", "", "connect", "options", "X"}

// A target that is empty, or has a # or a byte that is not visible, is none, in whatever place and form.
func TestTargetOfEveryByte(t *testing.T) {
	forms := []string{"/a?b", "*", "http://a:1/b?c", "http://a?c", "http://[::1]", "a:1", "[::1]:80", ""}
	for _, method := range methods {
		for _, form := range forms {
			edits(form, everyByte(), func(s string) { checkTarget(t, method, s) })
		}
	}
	for i := range 256 {
		c := string([]byte{byte(i)})
		if _, status := start.Target("GET", "/"+c); (status == 0) != (i >= 33 && i <= 126 && c != "#") {
			t.Errorf("Target with byte %d: %d", i, status)
		}
	}
}

func checkTarget(t *testing.T, method, s string) {
	got, status := start.Target(method, s)
	if want, code := wantTarget(method, s); got != want || status != code {
		t.Errorf("Target(%q, %q) = %#v, %d, want %#v, %d", method, s, got, status, want, code)
	}
}

func TestTargetOfShortTexts(t *testing.T) {
	for _, method := range methods {
		texts([]string{"http://", "HTTP:", "/", "?", "*", "a", "F", ":", "1", "[", "]", "#", "@"}, 4, func(s string) { checkTarget(t, method, s) })
		texts([]string{"/", "?", "A", ":", "7", "[", "]", ".", "#", " "}, 4, func(s string) { checkTarget(t, method, "Http://"+s) })
	}
}

// P3.2: hosts.
func TestHost(t *testing.T) {
	for _, s := range []string{
		"a", "A", "0", "example.com", "a-b", "-._~!$&'()*+,;=%", "%41", "%", ".", "*", "localhost:8080", "a:", "a:0", "a:12345", "a:99999",
		"[:]", "[.]", "[0]", "[::1]", "[::ffff:1.2.3.4]", "[abcdefABCDEF0123456789:.]", "[::1]:", "[::1]:80", "[::1]:12345",
		"ABCDEFGHIJKLMNOPQRSTUVWXYZabcdefghijklmnopqrstuvwxyz0123456789-._~!$&'()*+,;=%", strings.Repeat("a", 100000), "[" + strings.Repeat(":", 100000) + "]:1",
	} {
		if !start.Host(s) {
			t.Errorf("Host(%.40q) = false", s)
		}
	}
	for _, s := range []string{
		"", " ", ":", ":80", "a:123456", "a:000000", "a:1a", "a: 1", "a:-1", "a:+1", "a::", "a:1:", "a:1:2", "::1", "a b", " a", "a ", "a/", "/a", "a?", "a#", "a@b", "a\\", "a\"", "a<", "a^", "a`", "a{", "a|",
		"a\x00", "a\x7f", "\x80", "é", "a\n", "a:1\n", "a\t",
		"[", "]", "[]", "[]:80", "[]]", "[[]", "[[1]]", "[1]]", "[1", "1]", "[1:", "[1:80", "a[1]", "[1]a", "[1]a:80", "[1]:a", "[1]:1]", "[1][2]", "[1]:[2]", "[1]80", "[1]::80", "[1]:123456", "[g]", "[G]", "[1g]", "[ ]", "[1 ]", "[-]", "[%]", "[fe80::1%25a]", "[v1.a]", "[1_]",
		"a]:80", "a:80]", "[:", "[:80", "[1]\n", "[\xff]",
	} {
		if start.Host(s) {
			t.Errorf("Host(%q) = true", s)
		}
	}
}

func TestHostAgainstItsTerm(t *testing.T) {
	check := func(s string) {
		if got := start.Host(s); got != slowHost.MatchString(latin(s)) {
			t.Errorf("Host(%q) = %v", s, got)
		}
	}
	for _, s := range []string{"", "a", "ab", "a.b:1", "a:1234", "a:12345", "[]", "[1]", "[::1]:80", "[a.b]:"} {
		edits(s, everyByte(), check)
		edits(s, "a:[]1", func(s string) { edits(s, "aG:[]1.", check) })
	}
	texts([]string{"a", "g", "1", ":", "[", "]", "."}, 6, check)
	texts([]string{":", "1"}, 9, func(s string) { check("a" + s); check("[1]" + s) })
}
