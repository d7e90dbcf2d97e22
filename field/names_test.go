package field_test

import (
	"iter"
	"slices"
	"testing"

	"halfwayhouse/api"
	"halfwayhouse/field"
	"halfwayhouse/token"
)

// P2.2: the names.
func TestNames(t *testing.T) {
	for _, x := range []struct {
		l     []api.Field
		names []string
	}{
		{nil, nil}, {[]api.Field{}, nil},
		{of("B", "1", "a", "2", "b", "3", "A", "4", "C", "5", "a", "6"), []string{"b", "a", "c"}},
		{of("", "1", "", "2"), []string{""}}, {of("A:", "1", "a", "2", "a:", "3", " ", "4"), []string{"a:", "a", " "}}, // not valid
		{of("\xc0", "1", "\xe0", "2", "É", "3", "é", "4"), []string{"\xc0", "\xe0", "É", "é"}},
	} {
		if got := slices.Collect(field.Names(x.l)); !slices.Equal(got, x.names) {
			t.Errorf("Names(%q) = %q", x.l, got)
		}
	}
	lists(func(l []api.Field) {
		var want []string
		for _, f := range l {
			if name := token.Lower(f.Name); !slices.Contains(want, name) {
				want = append(want, name)
			}
		}
		if got := slices.Collect(field.Names(l)); !slices.Equal(got, want) {
			t.Fatalf("Names(%q) = %q", l, got)
		}
	})
}

// It may be left early, and gone through again from the beginning, also while it is being gone through.
func TestNamesAreYieldedAgain(t *testing.T) {
	seq := field.Names(of("a", "", "B", "", "A", "", "c", ""))
	for name := range seq {
		if name == "b" {
			break
		}
	}
	calls := 0
	seq(func(string) bool { calls++; return false })
	if calls != 1 {
		t.Errorf("%d names after the end was asked for", calls)
	}
	next, stop := iter.Pull(seq)
	defer stop()
	next()
	for range 2 {
		if got := slices.Collect(seq); !slices.Equal(got, []string{"a", "b", "c"}) {
			t.Errorf("%q", got)
		}
	}
	if name, ok := next(); name != "b" || !ok {
		t.Errorf("%q, %v", name, ok)
	}
}

// The list is not read later than in the call.
func TestNamesOfAListThatChanges(t *testing.T) {
	l := of("a", "1", "b", "2")
	seq := field.Names(l)
	l[0].Name, l[1].Name = "x", "a"
	if got := slices.Collect(seq); !slices.Equal(got, []string{"a", "b"}) {
		t.Errorf("%q", got)
	}
}
