package start_test

import (
	"math"
	"strconv"
	"strings"
	"testing"

	"halfwayhouse/api"
	"halfwayhouse/start"
)

func gotRequest(s string) request {
	method, target, minor, status := start.Request(s)
	return request{method, target, minor, status}
}

func gotStatus(s string) status {
	minor, code, reason, e := start.Status(s)
	return status{minor, code, reason, e}
}

// P3.1: request lines.
func TestRequest(t *testing.T) {
	long := strings.Repeat("x", 100000)
	for s, want := range map[string]request{
		"GET / HTTP/1.1":                     {"GET", "/", 1, 0},
		"GET / HTTP/1.0":                     {"GET", "/", 0, 0},
		"get /A?b=c#d HTTP/1.1":              {"get", "/A?b=c#d", 1, 0}, // what a target may be is not asked here
		"!#$%&'*+-.^_`|~09 !\"\\~ HTTP/1.1":  {"!#$%&'*+-.^_`|~09", "!\"\\~", 1, 0},
		"G HTTP/1.1 HTTP/1.1":                {"G", "HTTP/1.1", 1, 0},
		"HTTP/1.1 200 OK":                    {status: 400},
		long + " /" + long + " HTTP/1.1":     {long, "/" + long, 1, 0},
		"GET / HTTP/2.0":                     {status: 505},
		"GET / HTTP/0.9":                     {status: 505},
		"GET / HTTP/1.2":                     {status: 505},
		"GET / HTTP/1.9":                     {status: 505},
		"GET / HTTP/0.1":                     {status: 505},
		"GET / HTTP/2.1":                     {status: 505},
		"G@T / HTTP/2.0":                     {status: 400}, // no request line even apart from its version
		"GET /\x7f HTTP/2.0":                 {status: 400},
		"GET HTTP/2.0":                       {status: 400},
		"GET  HTTP/2.0":                      {status: 400},
		" / HTTP/2.0":                        {status: 400},
		"GET  / HTTP/2.0":                    {status: 400},
		"GET  / HTTP/1.1":                    {status: 400},
		"GET /  HTTP/1.1":                    {status: 400},
		" GET / HTTP/1.1":                    {status: 400},
		"GET / HTTP/1.1 ":                    {status: 400},
		"GET / HTTP/2.0 ":                    {status: 400},
		"GET / HTTP/1.1\r":                   {status: 400},
		"GET / HTTP/1.1\r\n":                 {status: 400},
		"GET / x HTTP/1.1":                   {status: 400},
		"GET\t/ HTTP/1.1":                    {status: 400},
		"GET /\tHTTP/1.1":                    {status: 400},
		"GET /\t HTTP/1.1":                   {status: 400},
		"GET /\xe9 HTTP/1.1":                 {status: 400},
		"G\xc9T / HTTP/1.1":                  {status: 400},
		"":                                   {status: 400},
		" ":                                  {status: 400},
		"  ":                                 {status: 400},
		"  HTTP/1.1":                         {status: 400},
		"GET":                                {status: 400},
		"GET ":                               {status: 400},
		"GET /":                              {status: 400},
		"GET / ":                             {status: 400},
		"GET / HTTP":                         {status: 400},
		"GET / HTTP/":                        {status: 400},
		"GET / HTTP/1":                       {status: 400},
		"GET / HTTP/2":                       {status: 400},
		"GET / HTTP/1.":                      {status: 400},
		"GET / HTTP/.1":                      {status: 400},
		"GET / HTTP/1,1":                     {status: 400},
		"GET / HTTP/11":                      {status: 400},
		"GET / HTTP/1.10":                    {status: 400},
		"GET / HTTP/01.1":                    {status: 400},
		"GET / HTTP/1.01":                    {status: 400},
		"GET / HTTP/1.1.1":                   {status: 400},
		"GET / HTTP/1..1":                    {status: 400},
		"GET / HTTP/+1.1":                    {status: 400},
		"GET / HTTP/a.1":                     {status: 400},
		"GET / HTTP/1.a":                     {status: 400},
		"GET / http/1.1":                     {status: 400},
		"GET / Http/1.1":                     {status: 400},
		"GET / HTTPS/1.1":                    {status: 400},
		"GET / HTTP /1.1":                    {status: 400},
		"GET / HTTP/\xd9\xa1.1":              {status: 400}, // a digit in Unicode only
		"GET / HTTP/1.1" + long:              {status: 400},
		"\x00 \x00 \x00":                     {status: 400},
		"PRI * HTTP/2.0":                     {status: 505},
		"CONNECT a:1 HTTP/1.1":               {"CONNECT", "a:1", 1, 0},
		"OPTIONS * HTTP/1.0":                 {"OPTIONS", "*", 0, 0},
		"GET http://a/ HTTP/1.1":             {"GET", "http://a/", 1, 0},
		"GET " + everyVisible + " HTTP/1.1":  {"GET", everyVisible, 1, 0},
		"GET " + everyVisible + "  HTTP/1.1": {status: 400},
	} {
		if got := gotRequest(s); got != want {
			t.Errorf("Request(%.60q) = %#.200v", s, got)
		}
	}
}

const everyVisible = "!\"#$%&'()*+,-./0123456789:;<=>?@ABCDEFGHIJKLMNOPQRSTUVWXYZ[\\]^_`abcdefghijklmnopqrstuvwxyz{|}~"

func TestRequestOfEveryVersion(t *testing.T) {
	for i := range 100 {
		want := request{status: 505}
		if i == 10 || i == 11 {
			want = request{"GET", "/", i - 10, 0}
		}
		s := "GET / HTTP/" + strconv.Itoa(i/10) + "." + strconv.Itoa(i%10)
		if got := gotRequest(s); got != want {
			t.Errorf("Request(%q) = %#v", s, got)
		}
	}
}

// Lines that are wrong by one byte, and by two, against the slow form of the promises.
func TestRequestOfEdits(t *testing.T) {
	check := func(s string) {
		if got, want := gotRequest(s), wantRequest(s); got != want {
			t.Errorf("Request(%q) = %#v, want %#v", s, got, want)
		}
	}
	for _, line := range []string{"GET / HTTP/1.1", "a *b HTTP/1.0", "PUT http://a/ HTTP/3.7"} {
		edits(line, everyByte(), check)
		edits(line, " 01.H/\t", func(s string) { edits(s, " 1.x\xff", check) })
	}
	texts([]string{"G", " ", "/", "HTTP/1.1", "HTTP/2.1", "\x7f"}, 6, check)
}

// P3.1: status lines.
func TestStatus(t *testing.T) {
	long := strings.Repeat("x", 100000)
	for s, want := range map[string]status{
		"HTTP/1.1 200 OK":                 {1, 200, "OK", 0},
		"HTTP/1.0 404 Not Found":          {0, 404, "Not Found", 0},
		"HTTP/1.1 204 ":                   {1, 204, "", 0},
		"HTTP/1.1 100 Continue":           {1, 100, "Continue", 0},
		"HTTP/1.1 599 x":                  {1, 599, "x", 0},
		"HTTP/1.1 200  OK ":               {1, 200, " OK ", 0}, // white space consists of value characters
		"HTTP/1.1 200  ":                  {1, 200, " ", 0},
		"HTTP/1.1 200 \t":                 {1, 200, "\t", 0},
		"HTTP/1.1 200 \x80\xff é":         {1, 200, "\x80\xff é", 0},
		"HTTP/1.1 200 " + long:            {1, 200, long, 0},
		"HTTP/1.1 200":                    {e: 4},
		"HTTP/1.1 200OK":                  {e: 4},
		"HTTP/1.1 200\tOK":                {e: 4},
		"HTTP/1.1  200 OK":                {e: 4},
		" HTTP/1.1 200 OK":                {e: 4},
		"HTTP/1.1\t200 OK":                {e: 4},
		"HTTP/1.1200 OK":                  {e: 4},
		"HTTP/1.1 099 OK":                 {e: 4},
		"HTTP/1.1 000 OK":                 {e: 4},
		"HTTP/1.1 600 OK":                 {e: 4},
		"HTTP/1.1 999 OK":                 {e: 4},
		"HTTP/1.1 20 OK":                  {e: 4},
		"HTTP/1.1 2000 OK":                {e: 4},
		"HTTP/1.1 0200 OK":                {e: 4},
		"HTTP/1.1  OK":                    {e: 4},
		"HTTP/1.1 OK":                     {e: 4},
		"HTTP/1.1 +20 OK":                 {e: 4},
		"HTTP/1.1 -20 OK":                 {e: 4},
		"HTTP/1.1 2e2 OK":                 {e: 4},
		"HTTP/1.1 0x2 OK":                 {e: 4},
		"HTTP/1.1 20a OK":                 {e: 4},
		"HTTP/1.1 " + long + " OK":        {e: 4},
		"HTTP/1.1 18446744073709551816 x": {e: 4}, // 2^64 + 200
		"HTTP/1.1 200 O\nK":               {e: 4},
		"HTTP/1.1 200 OK\r":               {e: 4},
		"HTTP/1.1 200 OK\r\n":             {e: 4},
		"HTTP/1.1 200 \x00":               {e: 4},
		"HTTP/1.1 200 \x7f":               {e: 4},
		"HTTP/1.1 200 " + long + "\x1f":   {e: 4},
		"HTTP/2.0 200 OK":                 {e: 4},
		"HTTP/0.9 200 OK":                 {e: 4},
		"HTTP/1.2 200 OK":                 {e: 4},
		"HTTP/1 200 OK":                   {e: 4},
		"HTTP/1.10 200 OK":                {e: 4},
		"http/1.1 200 OK":                 {e: 4},
		"/1.1 200 OK":                     {e: 4},
		"200 OK":                          {e: 4},
		"GET / HTTP/1.1":                  {e: 4},
		"HTTP/1.1":                        {e: 4},
		"HTTP/1.1 ":                       {e: 4},
		"HTTP/1.1  ":                      {e: 4},
		"":                                {e: 4},
		" ":                               {e: 4},
		"  ":                              {e: 4},
	} {
		if got := gotStatus(s); got != want {
			t.Errorf("Status(%.60q) = %#.200v", s, got)
		}
	}
}

func TestStatusOfEveryNumber(t *testing.T) {
	for i := range 1000 {
		want := status{e: api.ErrBad}
		if i >= 100 && i <= 599 {
			want = status{1, i, "OK", api.OK}
		}
		s := "HTTP/1.1 " + strconv.Itoa(1000 + i)[1:] + " OK"
		if got := gotStatus(s); got != want {
			t.Errorf("Status(%q) = %#v", s, got)
		}
	}
}

func TestStatusOfEdits(t *testing.T) {
	check := func(s string) {
		if got, want := gotStatus(s), wantStatus(s); got != want {
			t.Errorf("Status(%q) = %#v, want %#v", s, got, want)
		}
	}
	for _, line := range []string{"HTTP/1.1 200 OK", "HTTP/1.0 599 ", "HTTP/1.1 100 \xffb c"} {
		edits(line, everyByte(), check)
		edits(line, " 0156.H/\t", func(s string) { edits(s, " 1.x\xff\x00", check) })
	}
	texts([]string{"HTTP/1.0", " ", "200", "1", "\t", "\r", "\x80"}, 6, check)
}

// P3.1: lines of parts, and what cannot stand there.
func TestRequestLine(t *testing.T) {
	for want, x := range map[string]request{
		"GET / HTTP/1.1":                   {method: "GET", target: "/", minor: 1},
		"get * HTTP/1.0":                   {method: "get", target: "*"},
		"~! " + everyVisible + " HTTP/1.1": {method: "~!", target: everyVisible, minor: 1},
	} {
		if s, e := start.RequestLine(x.method, x.target, x.minor); s != want || e != api.OK {
			t.Errorf("RequestLine(%q, %q, %d) = %q, %d", x.method, x.target, x.minor, s, e)
		}
	}
	for _, x := range []request{
		{method: "", target: "", minor: -1},
		{method: "", target: "/", minor: 1},
		{method: "GET A", target: "/", minor: 1},
		{method: "GET ", target: "/", minor: 1},
		{method: " GET", target: "/", minor: 1},
		{method: "GET / HTTP/1.1\r\nA", target: "/", minor: 1},
		{method: "G/T", target: "/", minor: 1},
		{method: "G\xff", target: "/", minor: 1},
		{method: "GET", target: "", minor: 1},
		{method: "GET", target: " ", minor: 1},
		{method: "GET", target: "/ /", minor: 1},
		{method: "GET", target: "/ ", minor: 1},
		{method: "GET", target: "/ HTTP/1.1\r\nA: b", minor: 1},
		{method: "GET", target: "/\n", minor: 1},
		{method: "GET", target: "/\t", minor: 1},
		{method: "GET", target: "/\x7f", minor: 1},
		{method: "GET", target: "/\x80", minor: 1},
		{method: "GET", target: "/", minor: -1},
		{method: "GET", target: "/", minor: 2}, // a version that is not supported
		{method: "GET", target: "/", minor: 9},
		{method: "GET", target: "/", minor: 10},
		{method: "GET", target: "/", minor: math.MinInt},
		{method: "GET", target: "/", minor: math.MaxInt},
		{method: "GET", target: "/", minor: 1<<8 + 1}, // 1 in a smaller integer
		{method: "GET", target: "/", minor: 1<<32 + 1},
	} {
		if s, e := start.RequestLine(x.method, x.target, x.minor); s != "" || e != api.ErrBad {
			t.Errorf("RequestLine(%q, %q, %d) = %q, %d", x.method, x.target, x.minor, s, e)
		}
	}
}

func TestStatusLine(t *testing.T) {
	for want, x := range map[string]status{
		"HTTP/1.1 200 OK":            {minor: 1, status: 200, reason: "OK"},
		"HTTP/1.0 100 ":              {minor: 0, status: 100, reason: ""},
		"HTTP/1.1 599  a\t\x80\xff~": {minor: 1, status: 599, reason: " a\t\x80\xff~"},
	} {
		if s, e := start.StatusLine(x.minor, x.status, x.reason); s != want || e != api.OK {
			t.Errorf("StatusLine(%d, %d, %q) = %q, %d", x.minor, x.status, x.reason, s, e)
		}
	}
	for _, x := range []status{
		{minor: 1, status: 0, reason: "OK"},
		{minor: 1, status: 20, reason: "OK"},
		{minor: 1, status: 99, reason: "OK"},
		{minor: 1, status: 600, reason: "OK"},
		{minor: 1, status: 2000, reason: "OK"},
		{minor: 1, status: -200, reason: "OK"},
		{minor: 1, status: math.MinInt, reason: "OK"},
		{minor: 1, status: math.MaxInt, reason: "OK"},
		{minor: 1, status: 1<<32 + 200, reason: "OK"}, // 200 in a smaller integer
		{minor: 1, status: 200, reason: "OK\r\n"},
		{minor: 1, status: 200, reason: "OK\r\nA: b"},
		{minor: 1, status: 200, reason: "\x00"},
		{minor: 1, status: 200, reason: "a\x7f"},
		{minor: -1, status: 200, reason: "OK"},
		{minor: 2, status: 200, reason: "OK"},
		{minor: 10, status: 200, reason: "OK"},
		{minor: math.MinInt, status: 200, reason: "OK"},
		{minor: math.MaxInt, status: 200, reason: "OK"},
		{minor: 1 << 16, status: 200, reason: "OK"}, // 0 in a smaller integer
		{minor: 1 << 32, status: 200, reason: "OK"},
	} {
		if s, e := start.StatusLine(x.minor, x.status, x.reason); s != "" || e != api.ErrBad {
			t.Errorf("StatusLine(%d, %d, %q) = %q, %d", x.minor, x.status, x.reason, s, e)
		}
	}
}

// P3.3: what the lines are made of is read again; and whatever could not be read is not made.
func TestRequestReadsRequestLine(t *testing.T) {
	check := func(method, target string, minor int) {
		s, e := start.RequestLine(method, target, minor)
		want := request{method, target, minor, 0}
		slow := method + " " + target + " HTTP/1." + strconv.Itoa(minor)
		switch made := wantRequest(slow) == want; {
		case made != (e == api.OK), made && (s != slow || gotRequest(s) != want), !made && (s != "" || e != api.ErrBad):
			t.Errorf("RequestLine(%q, %q, %d) = %q, %d, read as %#v", method, target, minor, s, e, gotRequest(s))
		}
	}
	for minor := -1; minor <= 11; minor++ {
		edits("GET", everyByte(), func(method string) { check(method, "/", minor) })
		edits("/a#?", everyByte(), func(target string) { check("PUT", target, minor) })
		texts([]string{"a", " ", "/", "\xff"}, 3, func(method string) {
			texts([]string{"a", " ", "/", "\xff"}, 3, func(target string) { check(method, target, minor) })
		})
	}
}

func TestStatusReadsStatusLine(t *testing.T) {
	check := func(minor, code int, reason string) {
		s, e := start.StatusLine(minor, code, reason)
		want := status{minor, code, reason, api.OK}
		slow := "HTTP/1." + strconv.Itoa(minor) + " " + strconv.Itoa(code) + " " + reason
		switch made := wantStatus(slow) == want; {
		case made != (e == api.OK), made && (s != slow || gotStatus(s) != want), !made && (s != "" || e != api.ErrBad):
			t.Errorf("StatusLine(%d, %d, %q) = %q, %d, read as %#v", minor, code, reason, s, e, gotStatus(s))
		}
	}
	for minor := -1; minor <= 11; minor++ {
		for code := -1001; code <= 1001; code++ {
			check(minor, code, "OK")
		}
		edits("Not \tFound", everyByte(), func(reason string) { check(minor, 404, reason) })
	}
}
