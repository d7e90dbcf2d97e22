package method_test

import (
	"testing"

	"halfwayhouse/method"
)

// slowClass follows P13.1.
func slowClass(m string) class {
	switch m {
	case "GET", "HEAD":
		return class{true, true, true, true}
	case "OPTIONS", "TRACE":
		return class{true, true, true, false}
	case "PUT", "DELETE":
		return class{true, false, true, false}
	case "CONNECT", "PATCH", "POST":
		return class{true, false, false, false}
	}
	return class{}
}

// compare asks for the class of m, and whether P13.3 holds for it: what is safe is idempotent, what is cached is safe.
func compare(t *testing.T, m string) {
	got := classOf(m)
	if want := slowClass(m); got != want {
		t.Fatalf("%q: %+v, want %+v", m, got, want)
	}
	if got.safe && !got.idempotent || got.cached && !got.safe {
		t.Fatalf("%q: %+v", m, got)
	}
}

// P13.1 and P13.3: all texts of up to four of the letters of the shorter names, and of up to two bytes.
func TestAllShortTexts(t *testing.T) {
	const letters = "GETHADPUOSg "
	level := []string{""}
	for range 5 {
		var next []string
		for _, m := range level {
			compare(t, m)
			for i := range len(letters) {
				next = append(next, m+letters[i:i+1])
			}
		}
		level = next
	}
	for a := range 256 {
		for b := range 256 {
			compare(t, string([]byte{byte(a), byte(b)}))
		}
		compare(t, string([]byte{byte(a)}))
	}
}

// P13.1 and P13.3: every change of one byte of every name, every byte left out or added.
func TestAllEdits(t *testing.T) {
	for _, m := range []string{"CONNECT", "DELETE", "GET", "HEAD", "OPTIONS", "PATCH", "POST", "PUT", "TRACE"} {
		compare(t, m)
		for i := range len(m) + 1 {
			for c := range 256 {
				one := string([]byte{byte(c)})
				compare(t, m[:i]+one+m[i:])
				if i < len(m) {
					compare(t, m[:i]+one+m[i+1:])
				}
			}
			if i < len(m) {
				compare(t, m[:i]+m[i+1:])
			}
		}
	}
}

// P13.1: Names returns exactly the methods that are Known, each after the one before it, so that none is there twice.
func TestNamesAreKnown(t *testing.T) {
	names := method.Names()
	for i, m := range names {
		if !method.Known(m) || i > 0 && names[i-1] >= m {
			t.Errorf("%q", names)
		}
	}
	if len(names) != 9 {
		t.Errorf("%d names", len(names))
	}
}
