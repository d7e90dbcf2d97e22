package chunk_test

import (
	"slices"
	"testing"
	"unsafe"

	"halfwayhouse/api"
	"halfwayhouse/chunk"
)

// text returns a text of the bytes of s, and a function that overwrites them.
func text(s string) (string, func()) {
	b := []byte(s)
	return unsafe.String(&b[0], len(b)), func() {
		for i := range b {
			b[i] = 'z'
		}
	}
}

// What was fed is not read again, nor are results changed by what is fed later.
func TestFedBytesAreNotKept(t *testing.T) {
	const s = "3\r\nabc\r\n2;x\r\nde\r\n0\r\nA: b\r\nc: d\r\n\r\n"
	whole := want{len(s), 0, true, "abcde", of("A", "b", "c", "d")}
	for cut := 1; cut < len(s); cut++ {
		d := chunk.New(wide())
		first, wipeFirst := text(s[:cut])
		n, _ := d.Feed(first)
		wipeFirst()
		body, trailers := d.Body(), d.Trailers()
		wholeSoFar := told(chunk.New(wide()), s[:cut])
		rest, wipeRest := text(s[cut:])
		m, status := d.Feed(rest)
		wipeRest()
		if v := (want{n + m, status, d.Done(), d.Body(), d.Trailers()}); !same(v, whole) {
			t.Errorf("cut at %d: %#v", cut, v)
		}
		if body != wholeSoFar.body || !slices.Equal(trailers, wholeSoFar.trailers) {
			t.Errorf("cut at %d: %q, %q so far", cut, body, trailers)
		}
	}
}

// The trailers that are returned are a copy, with their spare capacity.
func TestTrailersAreACopy(t *testing.T) {
	d := chunk.New(wide())
	for i, line := range []string{"0\r\na:0\r\n", "a:1\r\n", "a:2\r\n", "a:3\r\n", "a:4\r\n", "\r\n"} {
		one, other := d.Trailers(), d.Trailers()
		kept := slices.Clone(other)
		clear(one[:cap(one)])
		d.Feed(line)
		l := d.Trailers()
		if !slices.Equal(other, kept) || len(l) != min(i+1, 5) {
			t.Errorf("%d lines: %q, and before %q", i, l, other)
		}
		for j, f := range l {
			if f != (api.Field{Name: "a", Value: string(rune('0' + j))}) {
				t.Errorf("%d lines: %q", i, l)
			}
		}
	}
}

// Encode changes nothing of what it is passed, and its result stays as it is whatever happens to that.
func TestEncodeLeavesItsArguments(t *testing.T) {
	body, wipeBody := text("abc")
	name, wipeName := text("A")
	value, wipeValue := text("b")
	memory := of(name, value, "spare", "1", "", "2")
	kept := slices.Clone(memory)
	chunk.Encode(body, 2, memory)
	whole, _ := chunk.Encode(body, 0, memory[:1])
	empty, _ := chunk.Encode("", 1, memory[:1])
	if !slices.Equal(memory, kept) {
		t.Errorf("%q", memory)
	}
	for _, wipe := range []func(){wipeBody, wipeName, wipeValue} {
		wipe()
	}
	if whole != "3\r\nabc\r\n0\r\nA: b\r\n\r\n" || empty != "0\r\nA: b\r\n\r\n" {
		t.Errorf("%q, %q", whole, empty)
	}
}
