package control_test

import (
	"slices"
	"testing"
	"unsafe"

	"halfwayhouse/api"
	"halfwayhouse/control"
)

// Arguments stay as they are, with their spare capacity, and what is beyond their end is not read.
func TestArgumentsAreNotChanged(t *testing.T) {
	memory := []string{"MAX-AGE=5, b", `no-cache="x"`, "max-age=3", "spare, public", "no-store"}
	kept := slices.Clone(memory)
	for end := range len(memory) {
		l := memory[:end]
		short := slices.Clone(l)[:end:end]
		if control.Parse(l) != control.Parse(short) || !slices.Equal(pairs(control.Each(l)), pairs(control.Each(short))) {
			t.Errorf("%d values: what is beyond them was read", end)
		}
		if !slices.Equal(memory, kept) {
			t.Fatalf("%d values: %q", end, memory)
		}
	}
}

// The list is not read later than in the call.
func TestEachOfAListThatChanges(t *testing.T) {
	l := []string{"a=1", "b=2"}
	seq := control.Each(l)
	l[0], l[1] = "x", "y"
	if got := pairs(seq); !slices.Equal(got, []string{"a", "1", "b", "2"}) {
		t.Errorf("%q", got)
	}
	for range seq {
		clear(l)
	}
	if got := pairs(seq); len(got) != 4 {
		t.Errorf("%q", got)
	}
}

// text returns a text of the bytes of s, and a function that overwrites them.
func text(s string) (string, func()) {
	b := []byte(s)
	return unsafe.String(unsafe.SliceData(b), len(b)), func() {
		for i := range b {
			b[i] = 'z'
		}
	}
}

// Results stay as they are whatever happens to the memory of the arguments.
func TestResultsAreNewMemory(t *testing.T) {
	value, wipe := text(`a=b, C="d", e`)
	l := []string{value}
	seq, early := control.Each(l), pairs(control.Each(l))
	next := early[:0:0]
	for name, text := range seq {
		wipe()
		next = append(next, name, text)
	}
	want := []string{"a", "b", "c", "d", "e", ""}
	for i, got := range [][]string{early, next, pairs(seq)} {
		if !slices.Equal(got, want) {
			t.Errorf("%d: %q", i, got)
		}
	}
}

// Each call begins anew: nothing is kept from the ones before.
func TestNothingIsKept(t *testing.T) {
	want := of(func(c *api.Control) { c.MaxAge, c.MaxStale = 9, 2 })
	for range 3 {
		if got := control.Parse([]string{"max-age=9, max-stale=2"}); got != want {
			t.Errorf("%+v", got)
		}
		control.Parse([]string{"max-age=1, max-stale, no-store"})
		control.Join(want, api.Control{})
	}
	if control.None() != nothing() {
		t.Errorf("%+v", control.None())
	}
}
