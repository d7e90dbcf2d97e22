package control

import (
	"iter"
	"strings"

	"halfwayhouse/api"
	"halfwayhouse/token"
)

// The names of the directives that a control can contain.
const (
	maxAge          = "max-age"
	sMaxAge         = "s-maxage"
	maxStale        = "max-stale"
	minFresh        = "min-fresh"
	staleWhile      = "stale-while-revalidate"
	staleIfError    = "stale-if-error"
	noCache         = "no-cache"
	noStore         = "no-store"
	noTransform     = "no-transform"
	onlyIfCached    = "only-if-cached"
	mustRevalidate  = "must-revalidate"
	proxyRevalidate = "proxy-revalidate"
	mustUnderstand  = "must-understand"
	public          = "public"
	private         = "private"
)

// An argument is what a directive has beside its name. That there is none is told apart from an empty text: max-stale means something only without =.
type argument struct {
	text  string
	there bool
}

// seconds returns the number of a, or none if its text is not a number.
func (a argument) seconds() int64 {
	n, e := token.Number(a.text)
	switch e {
	case api.OK:
		return min(n, api.MaxDelta)
	case api.ErrLong:
		return api.MaxDelta
	}
	return none
}

// A setter enters into a control what one directive says.
type setter func(c *api.Control, a argument)

// setters returns the setter of each name.
func setters() map[string]setter {
	return map[string]setter{
		maxAge:          func(c *api.Control, a argument) { least(&c.MaxAge, max(a.seconds(), 0)) },
		sMaxAge:         func(c *api.Control, a argument) { least(&c.SMaxAge, max(a.seconds(), 0)) },
		maxStale:        func(c *api.Control, a argument) { c.MaxStale = max(c.MaxStale, staleness(a)) },
		minFresh:        func(c *api.Control, a argument) { least(&c.MinFresh, a.seconds()) },
		staleWhile:      func(c *api.Control, a argument) { least(&c.StaleWhile, a.seconds()) },
		staleIfError:    func(c *api.Control, a argument) { least(&c.StaleIfError, a.seconds()) },
		noCache:         func(c *api.Control, _ argument) { c.NoCache = true },
		noStore:         func(c *api.Control, _ argument) { c.NoStore = true },
		noTransform:     func(c *api.Control, _ argument) { c.NoTransform = true },
		onlyIfCached:    func(c *api.Control, _ argument) { c.OnlyIfCached = true },
		mustRevalidate:  func(c *api.Control, _ argument) { c.MustRevalidate = true },
		proxyRevalidate: func(c *api.Control, _ argument) { c.ProxyRevalidate = true },
		mustUnderstand:  func(c *api.Control, _ argument) { c.MustUnderstand = true },
		public:          func(c *api.Control, _ argument) { c.Public = true },
		private:         func(c *api.Control, _ argument) { c.Private = true },
	}
}

// least lowers the number at place to n, as the smallest counts if a name occurs several times; none is no number.
func least(place *int64, n int64) {
	if n != none && (*place == none || n < *place) {
		*place = n
	}
}

// staleness returns the number of a max-stale with the argument a.
func staleness(a argument) int64 {
	if !a.there {
		return api.MaxDelta
	}
	return a.seconds()
}

// Parse returns the control of the directives of the values in l.
func Parse(l []string) api.Control {
	c, known := None(), setters()
	for name, a := range directives(l) {
		if set, ok := known[name]; ok {
			set(&c, a)
		}
	}
	return c
}

// Each yields the directives of the values in l: the lowercase name, and the text, which is empty if there is none.
func Each(l []string) iter.Seq2[string, string] {
	values := make([]string, len(l))
	for i, s := range l { // now, as l must not be read any more when the directives are asked for
		values[i] = strings.Clone(s)
	}
	return func(yield func(string, string) bool) {
		for name, a := range directives(values) {
			if !yield(name, a.text) {
				return
			}
		}
	}
}

// directives yields the lowercase name and the argument of each directive of the values in l whose name is a token.
func directives(l []string) iter.Seq2[string, argument] {
	return func(yield func(string, argument) bool) {
		for _, value := range l {
			for _, part := range token.Split(value) {
				name, text, there := strings.Cut(part, "=")
				if !token.Token(name) {
					continue
				}
				if quoted, e := token.Unquote(text); e == api.OK {
					text = quoted
				}
				if !yield(token.Lower(name), argument{text, there}) {
					return
				}
			}
		}
	}
}
