package age_test

import (
	"slices"
	"testing"

	"halfwayhouse/age"
	"halfwayhouse/api"
	"halfwayhouse/control"
)

// Arguments stay as they are, with their spare capacity, and what is beyond their end is not read.
func TestArgumentsAreNotChanged(t *testing.T) {
	memory := of("A", "1", "Date", first, "Cache-Control", "max-age=5", "Age", "7", "Expires", next, "Last-Modified", start, "Cache-Control", "public", "Date", next, "Age", "8", "Expires", first, "Last-Modified", first, "spare", "4").Fields
	kept := slices.Clone(memory)
	for end := range len(memory) {
		m, short := api.Msg{Fields: memory[:end]}, api.Msg{Fields: slices.Clone(memory[:end])[:end:end]}
		if age.Of(m, now) != age.Of(short, now) || age.TimesOf(m, 1, now) != age.TimesOf(short, 1, now) {
			t.Errorf("%d fields: what is beyond them was read", end)
		}
		if !slices.Equal(memory, kept) {
			t.Fatalf("%d fields: %q", end, memory)
		}
	}
}

// Each call begins anew: nothing is kept from the ones before.
func TestNothingIsKept(t *testing.T) {
	m := of("Date", first, "Age", "7", "Expires", next, "Cache-Control", "max-age=5")
	c := control.None()
	c.MaxAge = 5
	for range 3 {
		told, times := age.Of(m, now), age.TimesOf(m, 1, now)
		if told != (api.Told{Control: c, Date: sec, Expires: sec + 1, Last: -1, Status: 200}) || times != (api.Times{Asked: 1, Answered: now, Date: sec, Age: 7}) {
			t.Errorf("%+v, %+v", told, times)
		}
		if got := age.Of(api.Msg{}, now); got != (api.Told{Control: control.None(), Date: -1, Expires: -1, Last: -1}) {
			t.Errorf("of nothing: %+v", got)
		}
		if age.Guess(0.5, 10) != 5 || age.Guess(0, 10) != 0 || age.Add(1, 2) != 3 || age.Sub(2, 1) != 1 || age.Life(told, 0.1) != 5 || age.Current(times, now+1) != now+7 {
			t.Error("a number has changed")
		}
	}
}
