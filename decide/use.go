package decide

import (
	"halfwayhouse/age"
	"halfwayhouse/api"
)

// A moment is what is known about a stored response at one time: what does not change, and its age then.
type moment struct {
	api.Meta
	current int64
}

// at returns the moment of m at the time now.
func at(m api.Meta, now int64) moment {
	return moment{Meta: m, current: age.Current(m.Times, now)}
}

// fresh reports whether the response is fresh.
func (m moment) fresh() bool { return m.current < m.Life }

// left returns for how long the response is still fresh.
func (m moment) left() int64 { return age.Sub(m.Life, m.current) }

// staleness returns for how long the response has not been fresh.
func (m moment) staleness() int64 { return age.Sub(m.current, m.Life) }

// within reports whether the response is stale, but may be used up to that staleness. No staleness is below 0 or above MaxDelta: a limit that is not there allows none, and MaxDelta allows any.
func (m moment) within(limit int64) bool {
	return !m.fresh() && !Strict(m.Control) && m.staleness() <= limit
}

// Fresh reports whether m is fresh.
func Fresh(m api.Meta, now int64) bool { return at(m, now).fresh() }

// Stale returns for how many seconds m has not been fresh, 0 if it is fresh.
func Stale(m api.Meta, now int64) int64 { return at(m, now).staleness() }

// OnError reports whether m may be used after a failure. Either the response or the request can allow that: the more generous one counts.
func OnError(m api.Meta, asked api.Control, now int64) bool {
	then := at(m, now)
	return then.fresh() || then.within(max(then.Control.StaleIfError, asked.StaleIfError))
}

// A demand is a stored response at one time, and what a request says about its use.
type demand struct {
	moment
	asked api.Control
}

// A rule says what is done with a stored response if the rule applies.
type rule struct {
	applies func(d demand) bool
	use     int
}

// rules returns the rules in order: the first one that applies counts.
func rules() []rule {
	return []rule{
		{demand.barred, api.UseCheck},
		{demand.freshEnough, api.UseFresh},
		{demand.notTooStale, api.UseStale},
		{demand.meanwhile, api.UseWhile},
	}
}

// barred reports whether the response must not be used unchecked, however fresh it is.
func (d demand) barred() bool { return d.asked.NoCache || d.Control.NoCache }

// freshEnough reports whether the response is as fresh as the request asks.
func (d demand) freshEnough() bool {
	return d.fresh() && d.youngEnough() && d.left() >= d.asked.MinFresh
}

// notTooStale reports whether the request accepts a response that is as stale as this one.
func (d demand) notTooStale() bool {
	return d.within(d.asked.MaxStale) && d.youngEnough()
}

// meanwhile reports whether the response may be used while it is checked, which is for requests alone that do not say how fresh it should be.
func (d demand) meanwhile() bool {
	return d.within(d.Control.StaleWhile) && d.asked.MaxAge < 0 && d.asked.MinFresh < 0
}

// youngEnough reports whether the response is not older than the request asks.
func (d demand) youngEnough() bool { return d.asked.MaxAge < 0 || d.current <= d.asked.MaxAge }

// Use returns what is done with the stored response m for a request with the control asked.
func Use(m api.Meta, asked api.Control, now int64) int {
	use := first(rules(), demand{moment: at(m, now), asked: asked})
	if use == api.UseCheck && asked.OnlyIfCached { // it forbids that a backend is asked
		return api.UseNone
	}
	return use
}

// first returns the use of the first rule that applies. A response to which none applies is checked.
func first(l []rule, d demand) int {
	for _, r := range l {
		if r.applies(d) {
			return r.use
		}
	}
	return api.UseCheck
}
