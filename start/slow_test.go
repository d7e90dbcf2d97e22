package start_test

import (
	"regexp"
	"strings"

	"halfwayhouse/api"
)

// The document's terms, as expressions. They are asked of latin texts: a byte of the input is a character there.
const (
	slowToken  = "[A-Za-z0-9!#$%&'*+.^_`|~-]+"
	slowName   = `(?:[A-Za-z0-9._~!$&'()*+,;=%-]+|\[[0-9A-Fa-f:.]+\])`
	slowReason = `[\x09\x20-\x7e\x{80}-\x{ff}]*`
)

var (
	slowRequest   = regexp.MustCompile(`^(` + slowToken + `) ([!-~]+) HTTP/([0-9])\.([0-9])$`)
	slowStatus    = regexp.MustCompile(`^HTTP/1\.([01]) ([1-5][0-9][0-9]) (` + slowReason + `)$`)
	slowTarget    = regexp.MustCompile(`^[!"$-~]+$`)
	slowHost      = regexp.MustCompile(`^` + slowName + `(?::[0-9]{0,5})?$`)
	slowAuthority = regexp.MustCompile(`^` + slowName + `:[0-9]{1,5}$`)
	slowAbsolute  = regexp.MustCompile(`^(?i:http)://(` + slowName + `(?::[0-9]{0,5})?)([/?].*)?$`)
)

func latin(s string) string {
	runes := make([]rune, len(s))
	for i := range len(s) {
		runes[i] = rune(s[i])
	}
	return string(runes)
}

// bytesOf takes latin back.
func bytesOf(s string) string {
	var b []byte
	for _, r := range s {
		b = append(b, byte(r))
	}
	return string(b)
}

type request struct {
	method, target string
	minor, status  int
}

func wantRequest(s string) request {
	parts := slowRequest.FindStringSubmatch(latin(s))
	switch {
	case parts == nil:
		return request{status: 400}
	case parts[3] != "1" || parts[4] > "1":
		return request{status: 505}
	}
	return request{parts[1], parts[2], int(parts[4][0] - '0'), 0}
}

type status struct {
	minor, status int
	reason        string
	e             api.Errno
}

func wantStatus(s string) status {
	parts := slowStatus.FindStringSubmatch(latin(s))
	if parts == nil {
		return status{e: api.ErrBad}
	}
	code := parts[2]
	return status{int(parts[1][0] - '0'), int(code[0]-'0')*100 + int(code[1]-'0')*10 + int(code[2]-'0'), bytesOf(parts[3]), api.OK}
}

func wantTarget(method, s string) (api.Target, int) {
	l := latin(s)
	parts := slowAbsolute.FindStringSubmatch(l)
	switch {
	case !slowTarget.MatchString(l):
	case method == "CONNECT":
		if slowAuthority.MatchString(l) {
			return api.Target{Form: 3, Host: strings.ToLower(s)}, 0
		}
	case s == "*" && method == "OPTIONS":
		return api.Target{Form: 4}, 0
	case s[0] == '/':
		return api.Target{Form: 1, Path: s}, 0
	case parts != nil && strings.HasPrefix(parts[2], "/"):
		return api.Target{Form: 2, Host: strings.ToLower(parts[1]), Path: parts[2]}, 0
	case parts != nil:
		return api.Target{Form: 2, Host: strings.ToLower(parts[1]), Path: "/" + parts[2]}, 0
	}
	return api.Target{}, 400
}

// texts calls f with every text of at most most parts of the alphabet.
func texts(alphabet []string, most int, f func(s string)) {
	var longer func(s string, left int)
	longer = func(s string, left int) {
		f(s)
		if left > 0 {
			for _, part := range alphabet {
				longer(s+part, left-1)
			}
		}
	}
	longer("", most)
}

// edits calls f with s, and with every text that is made of it by taking out a byte, replacing one, or putting one in.
func edits(s, alphabet string, f func(s string)) {
	f(s)
	for i := range len(s) + 1 {
		if i < len(s) {
			f(s[:i] + s[i+1:])
		}
		for j := range len(alphabet) {
			c := alphabet[j : j+1]
			f(s[:i] + c + s[i:])
			if i < len(s) {
				f(s[:i] + c + s[i+1:])
			}
		}
	}
}

func everyByte() string {
	var b [256]byte
	for i := range b {
		b[i] = byte(i)
	}
	return string(b[:])
}
