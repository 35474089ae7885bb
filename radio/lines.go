package radio

import (
	"slices"
	"strings"

	"sundial/api"
	"sundial/civil"
	"sundial/words"
)

// The fields of a NMEA line that are looked at.
const (
	kindField   = 0
	clockField  = 1
	statusField = 2
	dateField   = 9
)

const (
	// kindLength is how many characters name a line's kind: two of who tells it, three of what it tells.
	kindLength = 5
	kindEnd    = "RMC"

	// pairsLength is that of hhmmss and of ddmmyy.
	pairsLength = 6

	// firstOf1900s is the first yy that is a year of the 1900s: those below are of the 2000s.
	firstOf1900s = 80

	sumDigits = "0123456789ABCDEF"
)

const (
	// The words of a code line, without and with a quality.
	leastWords = 4
	mostWords  = 5

	// notSet is the quality of a clock that isn't set.
	notSet = 9
)

// NMEA is a line's UTC time. ErrText, ErrMac, ErrNone.
func NMEA(line string) (api.Time, api.Errno) {
	body, errno := bodyOf(line)
	if errno != api.OK {
		return 0, errno
	}
	// One more field than are looked at, so that the last of these ends at its comma.
	fields := strings.SplitN(body, ",", dateField+2)
	if len(fields) <= dateField || !isKind(fields[kindField]) || fields[statusField] != "A" {
		return 0, api.ErrNone
	}
	hms, ticks, isClock := clockOf(fields[clockField])
	dmy, isDate := pairs(fields[dateField])
	if !isClock || !isDate {
		return 0, api.ErrNone
	}
	return tell(api.Date{Year: fullYear(dmy[2]), Month: dmy[1], Day: dmy[0]}, hms, ticks)
}

// bodyOf is what stands between a NMEA line's $ and *. ErrText, ErrMac.
func bodyOf(line string) (string, api.Errno) {
	behind, hasFront := strings.CutPrefix(line, "$")
	body, sum, hasEnd := strings.Cut(behind, "*")
	if !hasFront || !hasEnd || !isBody(body) || !isSum(sum) {
		return "", api.ErrText
	}
	if sum != sumOf(body) {
		return "", api.ErrMac
	}
	return body, api.OK
}

// isBody takes what has no * in it.
func isBody(s string) bool {
	for i := range len(s) {
		if s[i] < ' ' || s[i] > '~' || s[i] == '$' {
			return false
		}
	}
	return true
}

func isSum(s string) bool {
	return len(s) == 2 && strings.IndexByte(sumDigits, s[0]) >= 0 && strings.IndexByte(sumDigits, s[1]) >= 0
}

func sumOf(body string) string {
	sum := byte(0)
	for i := range len(body) {
		sum ^= body[i]
	}
	return string([]byte{sumDigits[sum>>4], sumDigits[sum&15]})
}

func isKind(s string) bool {
	return len(s) == kindLength && strings.HasSuffix(s, kindEnd)
}

// clockOf is the hours, minutes, seconds and ticks of hhmmss, which a point and one to six digits may follow.
func clockOf(s string) ([3]int, int, bool) {
	if len(s) < pairsLength {
		return [3]int{}, 0, false
	}
	hms, isClock := pairs(s[:pairsLength])
	// Layer 7 takes nothing behind a 0 but a point and one to six digits.
	ticks, errno := words.Seconds("0" + s[pairsLength:])
	return hms, int(ticks), isClock && errno == api.OK
}

// fullYear takes a year's last two digits.
func fullYear(yy int) int {
	if yy >= firstOf1900s {
		return 1900 + yy
	}
	return 2000 + yy
}

// Code is a line's UTC time. ErrText, ErrNone.
func Code(line string) (api.Time, api.Errno) {
	list, fault := words.Split(line)
	if fault.Why != api.OK || len(list) < leastWords || len(list) > mostWords {
		return 0, api.ErrText
	}
	if slices.ContainsFunc(list, isQuoted) || list[0].Text != "T" {
		return 0, api.ErrText
	}
	year, isYear := digits(list[1].Text, 4)
	day, isDay := digits(list[2].Text, 3)
	hms, isClock := pairs(list[3].Text)
	quality, isQuality := qualityOf(list[leastWords:])
	if !isYear || !isDay || !isClock || !isQuality {
		return 0, api.ErrText
	}
	date, isDate := dateOf(year, day)
	if !isDate || quality == notSet {
		return 0, api.ErrNone
	}
	return tell(date, hms, 0)
}

func isQuoted(w api.Word) bool { return w.Quoted }

// qualityOf takes the one word behind the others, or none: then it is 0.
func qualityOf(list []api.Word) (int, bool) {
	if len(list) == 0 {
		return 0, true
	}
	return digits(list[0].Text, 1)
}

// dateOf is the day of the year with the number day, from 1 on. False: there is none.
func dateOf(year, day int) (api.Date, bool) {
	newYear, errno := civil.Number(api.Date{Year: year, Month: 1, Day: 1})
	if errno != api.OK {
		return api.Date{}, false
	}
	date, errno := civil.Day(newYear + day - 1)
	// A number that the year doesn't have is that of a day in another year.
	return date, errno == api.OK && date.Year == year
}

// tell is the time of a day's hours, minutes, seconds and ticks. ErrNone, if no clockface shows them.
func tell(date api.Date, hms [3]int, ticks int) (api.Time, api.Errno) {
	t, errno := civil.Tell(api.Clockface{Date: date, Hour: hms[0], Minute: hms[1], Second: hms[2], Tick: ticks})
	if errno != api.OK {
		return 0, api.ErrNone
	}
	return t, api.OK
}

// pairs is the three numbers of two digits each that s is. False: it isn't.
func pairs(s string) ([3]int, bool) {
	n, ok := digits(s, pairsLength)
	return [3]int{n / 10000, n / 100 % 100, n % 100}, ok
}

// digits is the number that just so many digits stand for, noughts ahead or not. False: s isn't so many.
func digits(s string, count int) (int, bool) {
	if len(s) != count {
		return 0, false
	}
	n := 0
	for i := range len(s) {
		if s[i] < '0' || s[i] > '9' {
			return 0, false
		}
		n = 10*n + int(s[i]-'0')
	}
	return n, true
}
