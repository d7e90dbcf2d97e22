package vary_test

import (
	"slices"
	"testing"
	"unsafe"

	"halfwayhouse/api"
	"halfwayhouse/vary"
)

// Arguments stay as they are, with their spare capacity, also when the whole memory of a result is written; and what is beyond their end is not read.
func TestArgumentsAreNotChanged(t *testing.T) {
	memory := of("A", "x  y", "Vary", "C, b, a, A", "b", "\t", "VARY", "d, B", "a", "2", "Vary", "*", "Vary", "e", "A", "3")
	kept := slices.Clone(memory)
	allNames := []string{"B", "a", "c", "B", "vary", "A"}
	keptNames := slices.Clone(allNames)
	for end := range len(memory) {
		l := memory[:end]
		short := slices.Clone(l)[:end:end]
		for endNames := range len(allNames) {
			names := allNames[:endNames]
			shortNames := slices.Clone(names)[:endNames:endNames]
			if vary.Key(names, l) != vary.Key(shortNames, short) || !vary.Match(names, l, short) || !vary.Match(shortNames, short, l) {
				t.Errorf("%d fields, %d names: what is beyond them was read", end, endNames)
			}
		}
		found, star := vary.Names(l)
		again, starAgain := vary.Names(short)
		if !slices.Equal(found, again) || star != starAgain || vary.Value(l, "a") != vary.Value(short, "a") {
			t.Errorf("%d fields: what is beyond them was read", end)
		}
		clear(found[:cap(found)])
		if !slices.Equal(memory, kept) || !slices.Equal(allNames, keptNames) {
			t.Fatalf("%d fields: %q, %q", end, memory, allNames)
		}
	}
}

// The spare capacity of a result has nothing of an argument in it.
func TestSpareCapacityIsEmpty(t *testing.T) {
	names, _ := vary.Names(of("Vary", "c, b, a, C, B, A, a, b, c"))
	for _, name := range names[len(names):cap(names)] {
		if name != "" {
			t.Errorf("%q", name)
		}
	}
}

// Results stay as they are whatever happens to the memory of the arguments.
func TestResultsAreNewMemory(t *testing.T) {
	var wipes []func()
	own := func(s string) string {
		b := []byte(s)
		wipes = append(wipes, func() { clear(b) })
		return unsafe.String(unsafe.SliceData(b), len(b))
	}
	l := []api.Field{{Name: own("vary"), Value: own("b, a, b")}, {Name: own("a"), Value: own("1  2")}, {Name: own("empty"), Value: own("")}}
	asked := []string{own("vary"), own("a"), own("c")}
	names, _ := vary.Names(l)
	values := []string{vary.Value(l, asked[0]), vary.Value(l, asked[1]), vary.Value(l, asked[2]), vary.Value(l, "empty")}
	key := vary.Key(asked, l)
	primaries := []string{vary.Primary(own("host"), own("/path")), vary.Primary(own("host"), ""), vary.Primary("", own("/path"))}
	for _, wipe := range wipes {
		wipe()
	}
	clear(l)
	clear(asked)
	if !slices.Equal(names, []string{"a", "b"}) || !slices.Equal(values, []string{"+b, a, b", "+1 2", "-", "+"}) || key != "vary:8:+b, a, b\na:4:+1 2\nc:1:-\n" {
		t.Errorf("%q, %q, %q", names, values, key)
	}
	if !slices.Equal(primaries, []string{"host /path", "host ", " /path"}) {
		t.Errorf("%q", primaries)
	}
}

// Each call begins anew: nothing is kept from the ones before, and two results share nothing.
func TestNothingIsKept(t *testing.T) {
	l := of("Vary", "b, a", "A", "1")
	for range 3 {
		names, star := vary.Names(l)
		if !slices.Equal(names, []string{"a", "b"}) || star {
			t.Errorf("%q, %v", names, star)
		}
		if got := vary.Key(names, l); got != "a:2:+1\nb:1:-\n" {
			t.Errorf("%q", got)
		}
		clear(names)
		vary.Names(of("Vary", "*"))
		vary.Match([]string{"a"}, l, nil)
	}
}
