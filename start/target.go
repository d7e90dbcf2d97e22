package start

import (
	"strings"

	"halfwayhouse/api"
	"halfwayhouse/token"
)

// Target returns the target that s denotes in a request with that method, and status 0; or status 400.
func Target(method, s string) (api.Target, int) {
	switch {
	case !some(s, visible) || strings.Contains(s, "#"):
		return api.Target{}, api.Status400
	case method == "CONNECT":
		return authority(s)
	case method == "OPTIONS" && s == "*":
		return api.Target{Form: api.FormAsterisk}, 0
	case s[0] == '/':
		return api.Target{Form: api.FormOrigin, Path: strings.Clone(s)}, 0
	default:
		return absolute(s)
	}
}

// authority returns the target of a CONNECT: a host whose port has a digit.
func authority(s string) (api.Target, int) {
	if _, port := cutPort(s); port == "" || !Host(s) {
		return api.Target{}, api.Status400
	}
	return api.Target{Form: api.FormAuthority, Host: token.Lower(s)}, 0
}

// absolute returns the target that begins with http:// and a host.
func absolute(s string) (api.Target, int) {
	const scheme = "http://"
	begin := min(len(scheme), len(s))
	host, path := s[begin:], ""
	if end := strings.IndexAny(host, "/?"); end >= 0 {
		host, path = host[:end], host[end:]
	}
	if !token.Same(s[:begin], scheme) || !Host(host) {
		return api.Target{}, api.Status400
	}
	if !strings.HasPrefix(path, "/") {
		path = "/" + path
	}
	return api.Target{Form: api.FormAbsolute, Host: token.Lower(host), Path: strings.Clone(path)}, 0
}

// Host reports whether s is a host: a name or an address in brackets, and perhaps a port.
func Host(s string) bool {
	name, port := cutPort(s)
	if len(port) > 5 || !all(port, digit) {
		return false
	}
	if inside, open := strings.CutPrefix(name, "["); open {
		address, closed := strings.CutSuffix(inside, "]")
		return closed && some(address, inAddress)
	}
	return some(name, inName)
}

// cutPort cuts s at the colon before its port: the first one that is not in the brackets of an address.
func cutPort(s string) (name, port string) {
	inside := strings.IndexByte(s, ']') + 1 // 0 without brackets
	outside, port, _ := strings.Cut(s[inside:], ":")
	return s[:inside+len(outside)], port
}

// some reports whether s is one or more of the bytes that belong.
func some(s string, belongs func(c byte) bool) bool { return s != "" && all(s, belongs) }

// all reports whether each byte of s belongs.
func all(s string, belongs func(c byte) bool) bool {
	for i := range len(s) {
		if !belongs(s[i]) {
			return false
		}
	}
	return true
}

// visible reports whether c is from 33 to 126.
func visible(c byte) bool { return c > ' ' && c <= '~' }

func digit(c byte) bool { return c >= '0' && c <= '9' }

func letter(c byte) bool { return c >= 'A' && c <= 'Z' || c >= 'a' && c <= 'z' }

// inName reports whether c can stand in a host's name.
func inName(c byte) bool {
	return letter(c) || digit(c) || strings.IndexByte("-._~!$&'()*+,;=%", c) >= 0
}

// inAddress reports whether c can stand in an address in brackets.
func inAddress(c byte) bool {
	return digit(c) || c >= 'A' && c <= 'F' || c >= 'a' && c <= 'f' || c == ':' || c == '.'
}
