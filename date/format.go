package date

import (
	"strconv"
	"strings"

	"halfwayhouse/api"
	"halfwayhouse/token"
)

// The first three letters of each name are its short form.
var (
	dayNames   = [7]string{"Sunday", "Monday", "Tuesday", "Wednesday", "Thursday", "Friday", "Saturday"}
	monthNames = [12]string{"Jan", "Feb", "Mar", "Apr", "May", "Jun", "Jul", "Aug", "Sep", "Oct", "Nov", "Dec"}
)

// Format returns the text of the second t in the first format, or ErrArg if t is not from 0 to MaxTime.
func Format(t int64) (string, api.Errno) {
	c, e := Civil(t)
	if e != api.OK {
		return "", e
	}
	return fixdate(c), api.OK
}

// Parse returns the second of which s is the text in one of the three formats, or ErrBad. A year of two digits is one near now.
func Parse(s string, now int64) (t int64, e api.Errno) {
	today, _ := Civil(min(max(now, 0), api.MaxTime)) // no error, as it is in the range
	formats := []func(string, int) (int64, api.Errno){parseFixdate, parseRFC850, parseAsctime}
try:
	for _, parse := range formats {
		if t, e = parse(s, today.Year); e == api.OK {
			break try
		}
	}
	return
}

// fixdate returns the text of c in the first format: Sun, 06 Nov 1994 08:49:37 GMT.
func fixdate(c api.Civil) string {
	return dayNames[c.Weekday][:3] + ", " + two(c.Day) + " " + monthNames[c.Month-1] + " " + strconv.Itoa(c.Year) + " " + clock(c) + " GMT"
}

// rfc850 returns the text of c in the second format: Sunday, 06-Nov-94 08:49:37 GMT.
func rfc850(c api.Civil) string {
	return dayNames[c.Weekday] + ", " + two(c.Day) + "-" + monthNames[c.Month-1] + "-" + two(c.Year%100) + " " + clock(c) + " GMT"
}

// asctime returns the text of c in the third format: Sun Nov  6 08:49:37 1994.
func asctime(c api.Civil) string {
	day := strconv.Itoa(c.Day)
	if c.Day < 10 {
		day = " " + day
	}
	return dayNames[c.Weekday][:3] + " " + monthNames[c.Month-1] + " " + day + " " + clock(c) + " " + strconv.Itoa(c.Year)
}

// clock returns the hour, the minute and the second of c.
func clock(c api.Civil) string { return two(c.Hour) + ":" + two(c.Minute) + ":" + two(c.Second) }

// two returns the two digits of a number below 100.
func two(n int) string { return strconv.Itoa(100 + n)[1:] }

// parseFixdate returns the second of which s is the text in the first format, or ErrBad.
func parseFixdate(s string, _ int) (int64, api.Errno) {
	if len(s) != len("Sun, 06 Nov 1994 08:49:37 GMT") {
		return 0, api.ErrBad
	}
	return written(s, fixdate, number(s[12:16]), s[8:11], s[5:7], s[17:25])
}

// parseRFC850 returns the second of which s is the text in the second format if it is that year now, or ErrBad.
func parseRFC850(s string, now int) (int64, api.Errno) {
	_, date, _ := strings.Cut(s, ", ")
	if len(date) != len("06-Nov-94 08:49:37 GMT") {
		return 0, api.ErrBad
	}
	return written(s, rfc850, fullYear(number(date[7:9]), now), date[3:6], date[:2], date[10:18])
}

// parseAsctime returns the second of which s is the text in the third format, or ErrBad.
func parseAsctime(s string, _ int) (int64, api.Errno) {
	if len(s) != len("Sun Nov  6 08:49:37 1994") {
		return 0, api.ErrBad
	}
	return written(s, asctime, number(s[20:]), s[4:7], token.Trim(s[8:10]), s[11:19])
}

// written returns the second that these parts of s denote, or ErrBad unless s is what text writes for it. So nothing else need be asked of the parts and of what is between them.
func written(s string, text func(api.Civil) string, year int, month, day, time string) (int64, api.Errno) {
	days, e := Days(year, monthNumber(month), number(day))
	if e != api.OK {
		return 0, api.ErrBad
	}
	t := days*dayLength + int64(number(time[:2])*hourLength+number(time[3:5])*minuteLength+number(time[6:]))
	c, e := Civil(t)
	if e != api.OK || text(c) != s {
		return 0, api.ErrBad
	}
	return t, api.OK
}

// fullYear returns the year that its last two digits denote if it is the year now.
func fullYear(digits, now int) int {
	year := now - now%100 + digits
	if year > now+50 {
		year -= 100
	}
	if year < firstYear {
		year += 100
	}
	return year
}

// monthNumber returns the number of the month with that name, or 0 if there is none.
func monthNumber(name string) int {
	for i, n := range monthNames {
		if n == name {
			return i + 1
		}
	}
	return 0
}

// number returns the number that s denotes, or 0 if it is none.
func number(s string) int {
	n, _ := token.Number(s)
	return int(n)
}
