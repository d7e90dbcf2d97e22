package hop_test

import (
	"slices"
	"testing"
	"unsafe"

	"halfwayhouse/api"
	"halfwayhouse/hop"
)

// wipe overwrites l and its spare capacity.
func wipe(l []api.Field) { clear(l[:cap(l)]) }

// Arguments stay as they are, with their spare capacity, also when the whole memory of a result is written; and what is beyond their end is not read.
func TestArgumentsAreNotChanged(t *testing.T) {
	memory := of("Connection", "x, close", "X", "1", "Via", "1.0 a", "Y", "2", "te", "", "Content-Length", "3", "via", "b", "Expect", "c", "Host", "d", "connection", "y", "spare", "4", "spare", "5")
	kept := slices.Clone(memory)
	for end := range len(memory) {
		l := memory[:end]
		short := slices.Clone(l)[:end:end]
		m, n := get(0, l...), answer(1, l...)
		m.Trailers, n.Trailers = l, l
		stripped, way := hop.Strip(l), hop.Via(l, 1, "p")
		request, _ := hop.Forward(m, "p")
		response, _ := hop.Forward(n, "p")
		if hop.Closes(m) != hop.Closes(get(0, short...)) || !slices.Equal(stripped, hop.Strip(short)) || !slices.Equal(way, hop.Via(short, 1, "p")) {
			t.Errorf("%d fields: what is beyond them was read", end)
		}
		for _, result := range [][]api.Field{stripped, way, request.Fields, response.Fields} {
			wipe(result)
			if !slices.Equal(memory, kept) {
				t.Fatalf("%d fields: %q", end, memory)
			}
		}
	}
}

// The spare capacity of a result has nothing of an argument in it.
func TestSpareCapacityIsEmpty(t *testing.T) {
	l := of("X", "1", "TE", "2", "Y", "3", "Connection", "y", "Content-Length", "4", "Expect", "5")
	m, _ := hop.Forward(get(1, l...), "p")
	for _, result := range [][]api.Field{hop.Strip(l), m.Fields} {
		for _, f := range result[len(result):cap(result)] {
			if f != (api.Field{}) {
				t.Errorf("%q", f)
			}
		}
	}
}

// text returns a text of the bytes of s, and a function that overwrites them.
func text(s string) (string, func()) {
	b := []byte(s)
	return unsafe.String(unsafe.SliceData(b), len(b)), func() {
		for i := range b {
			b[i] = 'z'
		}
	}
}

// Results stay as they are whatever happens to the memory of the arguments.
func TestResultsAreNewMemory(t *testing.T) {
	var wipes []func()
	own := func(s string) string {
		s, wipe := text(s)
		wipes = append(wipes, wipe)
		return s
	}
	l := of(own("A"), own("1"), own("via"), own("1.0 a"), own("Connection"), own("x"), own("X"), own("2"))
	name := own("p")
	request := api.Msg{Method: own("PUT"), Target: own("/p"), Minor: 1, Fields: l, Body: own("abc"), Trailers: l}
	response := api.Msg{Status: 200, Reason: own("OK"), Minor: 1, Fields: l, Body: own("abc")}
	stripped, way, added := hop.Strip(l), hop.Via(l, 1, name), hop.Via(nil, 1, name)
	asked, _ := hop.Forward(request, name)
	told, _ := hop.Forward(response, name)
	for _, wipe := range wipes {
		wipe()
	}
	clear(l)
	if want := of("A", "1", "via", "1.0 a"); !slices.Equal(stripped, want) {
		t.Errorf("%q", stripped)
	}
	if want := of("A", "1", "via", "1.0 a, 1.1 p", "Connection", "x", "X", "2"); !slices.Equal(way, want) || !slices.Equal(added, of("Via", "1.1 p")) {
		t.Errorf("%q, %q", way, added)
	}
	if want := (api.Msg{Method: "PUT", Target: "/p", Minor: 1, Fields: of("A", "1", "via", "1.0 a, 1.1 p", "Host", ""), Body: "abc"}); !equal(asked, want) {
		t.Errorf("%+v", asked)
	}
	if want := (api.Msg{Status: 200, Reason: "OK", Minor: 1, Fields: of("A", "1", "via", "1.0 a, 1.1 p"), Body: "abc"}); !equal(told, want) {
		t.Errorf("%+v", told)
	}
}
