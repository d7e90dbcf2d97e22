package decide_test

import (
	"slices"
	"testing"

	"halfwayhouse/api"
	"halfwayhouse/control"
	"halfwayhouse/decide"
)

// Arguments stay as they are, with their spare capacity, and what is beyond their end is not read.
func TestArgumentsAreNotChanged(t *testing.T) {
	memory := of("A", "1", "Date", first, "ETag", `"x"`, "Cache-Control", "max-age=60", "Last-Modified", prior, "etag", `"y"`, "Cache-Control", "no-cache", "Last-Modified", "", "spare", "4").Fields
	kept := slices.Clone(memory)
	for end := range len(memory) {
		m, short := api.Msg{Status: 200, Fields: memory[:end]}, api.Msg{Status: 200, Fields: slices.Clone(memory[:end])[:end:end]}
		if decide.Of(m, aged(1), 0.1) != decide.Of(short, aged(1), 0.1) {
			t.Errorf("%d fields: what is beyond them was read", end)
		}
		if !slices.Equal(memory, kept) {
			t.Fatalf("%d fields: %q", end, memory)
		}
	}
}

// Each call begins anew: nothing is kept from the ones before.
func TestNothingIsKept(t *testing.T) {
	m := of("Cache-Control", "max-age=10", "ETag", `"x"`)
	known := decide.Of(m, aged(5), 0.1)
	for range 3 {
		if decide.Of(m, aged(5), 0.1) != known || decide.Of(api.Msg{}, api.Times{}, 0.1) != (api.Meta{Control: control.None()}) {
			t.Error("Of")
		}
		if decide.Use(known, parsed(""), 0) != fresh || decide.Use(known, parsed("no-cache, only-if-cached"), 0) != none || decide.Use(known, parsed("max-stale"), 9) != stale || decide.Use(known, parsed(""), 9) != check {
			t.Error("Use")
		}
		if !decide.OnError(known, parsed("stale-if-error=9"), 9) || decide.OnError(known, parsed(""), 9) || !decide.Fresh(known, 4) || decide.Fresh(known, 5) || decide.Stale(known, 9) != 4 || decide.Stale(known, 0) != 0 {
			t.Error("OnError, Fresh or Stale")
		}
		if !decide.Storable(offer(200, "", "public")) || decide.Storable(offer(200, "no-store", "public")) || decide.Strict(parsed("")) || !decide.Strict(parsed("no-cache")) {
			t.Error("Storable or Strict")
		}
	}
}
