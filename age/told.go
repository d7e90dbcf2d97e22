package age

import (
	"halfwayhouse/api"
	"halfwayhouse/control"
	"halfwayhouse/date"
	"halfwayhouse/field"
	"halfwayhouse/token"
)

// none is a time that is not given.
const none = -1

// TimesOf returns the times of the response m that was asked for and received then.
func TimesOf(m api.Msg, asked, answered int64) api.Times {
	return api.Times{Asked: asked, Answered: answered, Date: timeOf(m, "Date", answered), Age: ageOf(m)}
}

// Of returns what the response m says about its freshness.
func Of(m api.Msg, now int64) api.Told {
	return api.Told{
		Control: control.Parse(field.All(m.Fields, "Cache-Control")),
		Date:    timeOf(m, "Date", now),
		Expires: expiryOf(m, now),
		Last:    timeOf(m, "Last-Modified", now),
		Status:  m.Status,
	}
}

// timeOf returns the time of the only field with that name, or none if there is not exactly one or it is no time.
func timeOf(m api.Msg, name string, now int64) int64 {
	if values := field.All(m.Fields, name); len(values) != 1 {
		return none
	} else if t, e := date.Parse(values[0], now); e == api.OK {
		return t
	}
	return none
}

// expiryOf returns the time of Expires. Whatever else is there, like the usual 0, says that the response has expired long ago.
func expiryOf(m api.Msg, now int64) int64 {
	const name = "Expires"
	if _, there := field.Get(m.Fields, name); !there {
		return none
	}
	return max(timeOf(m, name, now), 0)
}

// ageOf returns the Age of the response m.
func ageOf(m api.Msg) int64 {
	values := field.All(m.Fields, "Age")
	if len(values) != 1 {
		return 0
	}
	n, e := token.Number(values[0])
	if e == api.ErrLong {
		return int64(longest)
	}
	return span(seconds(n))
}
