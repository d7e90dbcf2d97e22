package etag

import (
	"slices"

	"halfwayhouse/api"
	"halfwayhouse/date"
	"halfwayhouse/field"
)

// The names of the conditions that are read and added.
const (
	ifNoneMatch     = "If-None-Match"
	ifModifiedSince = "If-Modified-Since"
)

// Of returns what a response with the fields l can be checked by.
func Of(l []api.Field, now int64) api.Checks {
	var c api.Checks
	c.Tag, c.HasTag = tagOf(l)
	c.Last, c.HasLast = timeOf(l, "Last-Modified", now)
	return c
}

// tagOf returns the tag of the only ETag in l, and whether there is exactly one and it is a tag.
func tagOf(l []api.Field) (api.Tag, bool) {
	if values := field.All(l, "ETag"); len(values) != 1 {
		return api.Tag{}, false
	} else if tag, e := Parse(values[0]); e == api.OK {
		return tag, true
	}
	return api.Tag{}, false
}

// timeOf returns the time of the only field in l with that name, and whether there is exactly one and it is a time.
func timeOf(l []api.Field, name string, now int64) (int64, bool) {
	if values := field.All(l, name); len(values) != 1 {
		return 0, false
	} else if t, e := date.Parse(values[0], now); e == api.OK {
		return t, true
	}
	return 0, false
}

// Unchanged reports whether a request with the fields asked gets a 304 for a response with the checks c. If-Modified-Since counts only without If-None-Match, which is the more exact of the two.
func Unchanged(asked []api.Field, c api.Checks, now int64) bool {
	if values := field.All(asked, ifNoneMatch); len(values) > 0 {
		return named(values, c)
	} else if since, ok := timeOf(asked, ifModifiedSince, now); ok {
		return c.HasLast && c.Last <= since
	}
	return false
}

// named reports whether the values of If-None-Match name the response with the checks c: by a star, or by a tag that matches its tag weakly.
func named(values []string, c api.Checks) bool {
	tags, star, e := Tags(values)
	switch {
	case e != api.OK:
		return false
	case star:
		return true
	}
	return c.HasTag && slices.ContainsFunc(tags, func(t api.Tag) bool { return Weak(t, c.Tag) })
}

// Ask returns l with the conditions by which a response with the checks c is checked, in place of all others. Range goes, too: a check is about the whole response.
func Ask(l []api.Field, c api.Checks) []api.Field {
	asked := l
	for _, name := range [...]string{"If-Match", ifNoneMatch, ifModifiedSince, "If-Unmodified-Since", "If-Range", "Range"} {
		asked = field.Del(asked, name) // a copy, so what is appended below is not written into l
	}
	if text, e := Text(c.Tag); c.HasTag && e == api.OK {
		asked = append(asked, api.Field{Name: ifNoneMatch, Value: text})
	}
	if text, e := date.Format(c.Last); c.HasLast && e == api.OK {
		asked = append(asked, api.Field{Name: ifModifiedSince, Value: text})
	}
	return asked
}
