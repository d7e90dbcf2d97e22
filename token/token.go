// Package token is layer 1: the lexical elements of HTTP messages. See shared/doc/01-token.md.
package token

import "strings"

// A kind is what a byte can be part of. Kinds are ordered: a later one can stand wherever an earlier one can.
type kind uint8

const (
	other kind = iota // of no element
	value             // of a value
	tchar             // of a token, and of a value
)

// kinds returns the kind of each byte. It is written out, as it is asked for by single bytes too: a rule gone through for all 256 would cost each of them far more.
func kinds() [256]kind {
	const o, v, t = other, value, tchar
	return [256]kind{
		o, o, o, o, o, o, o, o, o, v, o, o, o, o, o, o, // 0 to 15: the tab
		o, o, o, o, o, o, o, o, o, o, o, o, o, o, o, o, // 16 to 31
		v, t, v, t, t, t, t, t, v, v, t, t, v, t, t, v, // blank to /: all but blank " ( ) , /
		t, t, t, t, t, t, t, t, t, t, v, v, v, v, v, v, // 0 to ?: the digits
		v, t, t, t, t, t, t, t, t, t, t, t, t, t, t, t, // @ to O: all but @
		t, t, t, t, t, t, t, t, t, t, t, v, v, v, t, t, // P to _: all but [ \ ]
		t, t, t, t, t, t, t, t, t, t, t, t, t, t, t, t, // ` to o
		t, t, t, t, t, t, t, t, t, t, t, v, t, v, t, o, // p to 127: all but { } and 127
		v, v, v, v, v, v, v, v, v, v, v, v, v, v, v, v, // 128 to 143
		v, v, v, v, v, v, v, v, v, v, v, v, v, v, v, v,
		v, v, v, v, v, v, v, v, v, v, v, v, v, v, v, v,
		v, v, v, v, v, v, v, v, v, v, v, v, v, v, v, v,
		v, v, v, v, v, v, v, v, v, v, v, v, v, v, v, v,
		v, v, v, v, v, v, v, v, v, v, v, v, v, v, v, v,
		v, v, v, v, v, v, v, v, v, v, v, v, v, v, v, v,
		v, v, v, v, v, v, v, v, v, v, v, v, v, v, v, v, // 240 to 255
	}
}

// Tchar reports whether c is a token character.
func Tchar(c byte) bool { return kinds()[c] == tchar }

// Char reports whether c is a value character.
func Char(c byte) bool { return kinds()[c] >= value }

// Token reports whether s is a token: one or more token characters.
func Token(s string) bool { return s != "" && all(s, tchar) }

// all reports whether each byte of s can stand where those of the kind least can.
func all(s string, least kind) bool {
	k := kinds()
	for i := range len(s) {
		if k[s[i]] < least {
			return false
		}
	}
	return true
}

// Lower returns the lowercase form of s. Bytes that are not ASCII letters stay, so s need not be UTF-8.
func Lower(s string) string {
	b := []byte(s)
	for i, c := range b {
		b[i] = lower(c)
	}
	return string(b)
}

func lower(c byte) byte {
	if c >= 'A' && c <= 'Z' {
		return c - 'A' + 'a'
	}
	return c
}

// Same reports whether a and b have the same lowercase form.
func Same(a, b string) bool {
	if len(a) != len(b) {
		return false
	}
	for i := range len(a) {
		if lower(a[i]) != lower(b[i]) {
			return false
		}
	}
	return true
}

// Trim returns s without the white space at both ends. It returns a clone, as a part of s would share its memory, and keep all of s alive.
func Trim(s string) string { return strings.Clone(strings.Trim(s, " \t")) }
