package method_test

import (
	"slices"
	"testing"
	"unsafe"

	"halfwayhouse/method"
)

// Whatever is done to the names of one call, the next one and the questions answer the same: they share no memory, and nothing is kept.
func TestNamesAreNewMemory(t *testing.T) {
	first := method.Names()
	kept := slices.Clone(first)
	second := method.Names()
	for _, name := range first[len(first):cap(first)] {
		if name != "" {
			t.Errorf("spare capacity: %q", name)
		}
	}
	clear(first[:cap(first)])
	if !slices.Equal(second, kept) || !slices.Equal(method.Names(), kept) {
		t.Errorf("%q, %q, want %q", second, method.Names(), kept)
	}
	for _, m := range kept {
		if got := classOf(m); got != slowClass(m) {
			t.Errorf("%s: %+v", m, got)
		}
	}
	if method.Known("") {
		t.Error("the empty text is known")
	}
}

// A method is looked at when it is asked for, and its memory is not kept or changed.
func TestArgumentsAreNotKept(t *testing.T) {
	b := []byte("HEAD")
	m := unsafe.String(unsafe.SliceData(b), len(b))
	if got := classOf(m); got != slowClass("HEAD") || string(b) != "HEAD" {
		t.Errorf("%+v, %q", got, b)
	}
	copy(b, "POST")
	if got := classOf(m); got != slowClass("POST") || !slices.Equal(method.Names(), []string{"CONNECT", "DELETE", "GET", "HEAD", "OPTIONS", "PATCH", "POST", "PUT", "TRACE"}) {
		t.Errorf("%+v, %q", got, method.Names())
	}
}
