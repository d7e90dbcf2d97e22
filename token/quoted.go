package token

import (
	"strings"

	"halfwayhouse/api"
)

// Split returns the parts of s between the commas that are outside quoted strings, each trimmed, the empty ones left out.
func Split(s string) []string {
	var parts []string
	begin := 0
	for i := 0; i < len(s); i++ {
		switch s[i] {
		case '"':
			i = closing(s, i)
		case ',':
			parts = appendPart(parts, s[begin:i])
			begin = i + 1
		}
	}
	return appendPart(parts, s[begin:])
}

func appendPart(parts []string, s string) []string {
	if s = Trim(s); s == "" {
		return parts
	}
	return append(parts, s)
}

// closing returns the index of the " that closes the quoted string opened by the one at open, or an index beyond s if none does.
func closing(s string, open int) int {
	i := open + 1
scan:
	for ; i < len(s); i++ {
		switch s[i] {
		case '\\':
			i++ // whatever comes next, it does not close the string
		case '"':
			break scan
		}
	}
	return i
}

// Quote returns the quoted string for s, or ErrBad if s contains a byte that is not a value character.
func Quote(s string) (string, api.Errno) {
	if !all(s, value) {
		return "", api.ErrBad
	}
	var b strings.Builder
	b.WriteByte('"')
	for i := range len(s) {
		if s[i] == '"' || s[i] == '\\' {
			b.WriteByte('\\')
		}
		b.WriteByte(s[i])
	}
	b.WriteByte('"')
	return b.String(), api.OK
}

// Unquote returns the string that s quotes, or ErrBad unless s is exactly one quoted string.
func Unquote(s string) (string, api.Errno) {
	if s == "" || s[0] != '"' || closing(s, 0) != len(s)-1 || !all(s, value) {
		return "", api.ErrBad
	}
	var b strings.Builder
	for i := 1; i < len(s)-1; i++ {
		if s[i] == '\\' {
			i++ // there is a next one: a \ before the last " would have kept it from closing s
		}
		b.WriteByte(s[i])
	}
	return b.String(), api.OK
}
