package emit

import (
	"strconv"

	"halfwayhouse/api"
)

// Plain returns a response with that status that says no more than the status.
func Plain(status int) api.Msg {
	reason := Reason(status)
	return api.Msg{
		Status: status,
		Reason: reason,
		Minor:  1,
		Fields: []api.Field{{Name: "Content-Type", Value: "text/plain"}},
		Body:   strconv.Itoa(status) + " " + reason + "\n",
	}
}

// Reason returns the reason of a status that the proxy itself uses, or Other.
func Reason(status int) string {
	switch status {
	case 200:
		return "OK"
	case 304:
		return "Not Modified"
	case 400:
		return "Bad Request"
	case 413:
		return "Content Too Large"
	case 431:
		return "Request Header Fields Too Large"
	case 500:
		return "Internal Server Error"
	case 501:
		return "Not Implemented"
	case 502:
		return "Bad Gateway"
	case 503:
		return "Service Unavailable"
	case 504:
		return "Gateway Timeout"
	case 505:
		return "HTTP Version Not Supported"
	}
	return "Other"
}
