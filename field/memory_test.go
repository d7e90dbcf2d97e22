package field_test

import (
	"slices"
	"testing"
	"unsafe"

	"halfwayhouse/api"
	"halfwayhouse/field"
)

// Arguments stay as they are, with their spare capacity, also when the whole memory of a result is written.
func TestArgumentsAreNotChanged(t *testing.T) {
	memory := of("b", "1", "A", "2, 3", "c", "4", "a", "5", "b", "6", "spare", "7", "spare", "8")
	kept := slices.Clone(memory)
	wipe := func(l []api.Field) { clear(l[:cap(l)]) }
	for end := range len(memory) {
		l := memory[:end]
		for _, name := range []string{"a", "b", "c", "spare", "x", ""} {
			wipe(field.Set(l, name, "new"))
			wipe(field.Del(l, name))
			values, parts := field.All(l, name), field.List(l, name)
			clear(values[:cap(values)])
			clear(parts[:cap(parts)])
			field.Get(l, name)
			for range field.Names(l) {
			}
			if !slices.Equal(memory, kept) {
				t.Fatalf("%q, %d fields: %q", name, end, memory)
			}
		}
		field.Bytes(l)
		field.Same(l, memory)
		if !slices.Equal(memory, kept) {
			t.Fatalf("%d fields: %q", end, memory)
		}
	}
}

// text returns a text of the bytes of s, and a function that overwrites them.
func text(s string) (string, func()) {
	b := []byte(s)
	return unsafe.String(&b[0], len(b)), func() {
		for i := range b {
			b[i] = 'z'
		}
	}
}

// Results stay as they are whatever happens to the memory of the arguments.
func TestResultsAreNewMemory(t *testing.T) {
	name, wipeName := text("A")
	other, wipeOther := text("B")
	value, wipeValue := text("1")
	l := of(name, value, other, value)
	line, wipeLine := text("A: 1")
	f, _ := field.Line(line)
	got, _ := field.Get(l, "a")
	bytes, _ := field.Bytes(l)
	names := field.Names(l)
	lists := [][]api.Field{
		{f}, field.Del(l, "b"), field.Del(l, "x")[:1], field.Set(l, "a", value)[:1], field.Set(l, "b", value)[:1], field.Set(nil, name, value), field.Set(l, "x", value)[:1],
	}
	values := append([]string{got}, slices.Concat(field.All(l, "a"), field.List(l, "a"))...)
	for _, wipe := range []func(){wipeName, wipeOther, wipeValue, wipeLine} {
		wipe()
	}
	clear(l)
	for i, l := range lists {
		if !slices.Equal(l, of("A", "1")) {
			t.Errorf("list %d: %q", i, l)
		}
	}
	if !slices.Equal(values, []string{"1", "1", "1"}) || bytes != "A: 1\r\nB: 1\r\n" || !slices.Equal(slices.Collect(names), []string{"a", "b"}) {
		t.Errorf("%q, %q, %q", values, bytes, slices.Collect(names))
	}
}
