package emit_test

import (
	"slices"
	"testing"
	"unsafe"

	"halfwayhouse/api"
	"halfwayhouse/emit"
)

// Arguments stay as they are, with their spare capacity, and what is beyond their end is not read.
func TestArgumentsAreNotChanged(t *testing.T) {
	memory := of("A", "1", "B", "2", "C", "3", "Content-Length", "4", "D", "\n", "spare", "5")
	kept := slices.Clone(memory)
	for end := range len(memory) {
		l := memory[:end]
		short := slices.Clone(l)[:end:end]
		for _, m := range []api.Msg{with(ask("POST", "abc", l...), l...), with(answer(200, "abc", l...), l...)} {
			n := with(m, short...)
			n.Fields = short
			if emit.Check(m) != emit.Check(n) || asked(m) != asked(n) || told(m, "GET") != told(n, "GET") || cut(m, 2) != cut(n, 2) {
				t.Errorf("%d fields: what is beyond them was read", end)
			}
			if !slices.Equal(memory, kept) {
				t.Fatalf("%d fields: %q", end, memory)
			}
		}
	}
}

// A request whose trailers lie behind its fields in one memory keeps both.
func TestFieldsAndTrailersInOneMemory(t *testing.T) {
	memory := of("Host", "a", "T", "1", "U", "2")
	m := with(ask("POST", "abc", memory[:1]...), memory[1:]...)
	want := lines("POST /p?q HTTP/1.1", "Host: a", "Transfer-Encoding: chunked", "", "3", "abc", "0", "T: 1", "U: 2", "", "")
	for range 2 {
		if got := cut(m, 0); got != (result{want, api.OK}) {
			t.Errorf("%+v", got)
		}
		asked(m)
	}
}

// text returns a text of the bytes of s, and a function that overwrites them.
func text(s string) (string, func()) {
	b := []byte(s)
	return unsafe.String(unsafe.SliceData(b), len(b)), func() {
		for i := range b {
			b[i] = 'z'
		}
	}
}

// Results stay as they are whatever happens to the memory of the arguments.
func TestResultsAreNewMemory(t *testing.T) {
	var wipes []func()
	own := func(s string) string {
		s, wipe := text(s)
		wipes = append(wipes, wipe)
		return s
	}
	l := of(own("A"), own("1"))
	request := api.Msg{Method: own("PUT"), Target: own("/"), Minor: 1, Fields: l, Body: own("abc"), Trailers: l}
	response := api.Msg{Status: 200, Reason: own("OK"), Minor: 1, Fields: l, Body: own("abc")}
	results := []result{asked(request), told(response, own("GET")), told(response, own("HEAD")), cut(request, 2)}
	for _, wipe := range wipes {
		wipe()
	}
	clear(l)
	for i, want := range []string{
		lines("PUT / HTTP/1.1", "A: 1", "Content-Length: 3", "", "abc"),
		lines("HTTP/1.1 200 OK", "A: 1", "Content-Length: 3", "", "abc"),
		lines("HTTP/1.1 200 OK", "A: 1", "Content-Length: 3", "", ""),
		lines("PUT / HTTP/1.1", "A: 1", "Transfer-Encoding: chunked", "", "2", "ab", "1", "c", "0", "A: 1", "", ""),
	} {
		if results[i] != (result{want, api.OK}) {
			t.Errorf("%d: %+v", i, results[i])
		}
	}
}

// Plain returns fields of its own at each call.
func TestPlainIsNewMemory(t *testing.T) {
	m, n := emit.Plain(503), emit.Plain(503)
	clear(m.Fields[:cap(m.Fields)])
	_ = append(m.Fields, api.Field{Name: "X"})
	if want := of("Content-Type", "text/plain"); !slices.Equal(n.Fields, want) || !slices.Equal(emit.Plain(503).Fields, want) {
		t.Errorf("%+v", n)
	}
}
