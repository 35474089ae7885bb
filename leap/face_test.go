package leap

import (
	"math"
	"math/rand"
	"testing"
	"time"

	"sundial/api"
)

// yearTenThousand is the beginning of the first year that no clockface shows, in seconds.
const yearTenThousand = 2958464 * 86400

func face(year, month, day, hour, minute, second, tick int) api.Clockface {
	return api.Clockface{Date: api.Date{Year: year, Month: month, Day: day}, Hour: hour, Minute: minute, Second: second, Tick: tick}
}

func checkFace(t *testing.T, l api.Leaps, u api.Time, want api.Clockface) {
	t.Helper()
	if got, errno := Face(l, u); got != want || errno != api.OK {
		t.Errorf("Face of %d = %v, %v; want %v", u, got, errno, want)
	}
}

func checkNoFace(t *testing.T, l api.Leaps, u api.Time) {
	t.Helper()
	if got, errno := Face(l, u); got != (api.Clockface{}) || errno != api.ErrRange {
		t.Errorf("Face of %d = %v, %v; want ErrRange", u, got, errno)
	}
}

// P8.6
func TestFaceOfTheExample(t *testing.T) {
	checkFace(t, exampleTable(), a+seconds(10)+7, face(1972, 6, 30, 23, 59, 60, 7))
}

func TestFaceAroundALeapSecond(t *testing.T) {
	l := exampleTable()
	checkFace(t, l, a+seconds(9), face(1972, 6, 30, 23, 59, 59, 0))
	checkFace(t, l, a+seconds(10)-1, face(1972, 6, 30, 23, 59, 59, 1048575))
	checkFace(t, l, a+seconds(10), face(1972, 6, 30, 23, 59, 60, 0))
	checkFace(t, l, a+seconds(11)-1, face(1972, 6, 30, 23, 59, 60, 1048575))
	checkFace(t, l, a+seconds(11), face(1972, 7, 1, 0, 0, 0, 0))
	checkFace(t, l, a+seconds(11)+1, face(1972, 7, 1, 0, 0, 0, 1))
}

func TestFaceAroundASecondTakenAway(t *testing.T) {
	l := exampleTable()
	l.Changes[1].Offset = 9
	checkFace(t, l, a+seconds(8), face(1972, 6, 30, 23, 59, 58, 0))
	checkFace(t, l, a+seconds(9)-1, face(1972, 6, 30, 23, 59, 58, 1048575))
	checkFace(t, l, a+seconds(9), face(1972, 7, 1, 0, 0, 0, 0))
	checkFace(t, l, a+seconds(10), face(1972, 7, 1, 0, 0, 1, 0))
}

// The day ahead of a change: a month's last, in a leap year and in others.
func TestFaceOfLeapSecondsInAllMonths(t *testing.T) {
	for n := 1; n <= lastMonth; n += 7 {
		l := tableOf(n-1, 36, n, 37)
		date := time.Date(1900, time.Month(1+n), 0, 0, 0, 0, 0, time.UTC)
		at := l.Changes[1].At
		for _, tick := range []int{0, 1, 524288, 1048575} {
			checkFace(t, l, at+seconds(36)+api.Time(tick), face(date.Year(), int(date.Month()), date.Day(), 23, 59, 60, tick))
			checkFace(t, l, at+seconds(35)+api.Time(tick), face(date.Year(), int(date.Month()), date.Day(), 23, 59, 59, tick))
		}
	}
	l := tableOf((2000-1900)*12+1, 0, (2000-1900)*12+2, 1, (2100-1900)*12+1, 2, (2100-1900)*12+2, 3)
	checkFace(t, l, l.Changes[1].At, face(2000, 2, 29, 23, 59, 60, 0))
	checkFace(t, l, l.Changes[3].At+seconds(2), face(2100, 2, 28, 23, 59, 60, 0))
	checkFace(t, tableOf(0, 0, 1, 1), monthAt(1)+5, face(1900, 1, 31, 23, 59, 60, 5))
	checkFace(t, tableOf(0, 199, lastMonth, 200), monthAt(lastMonth)+seconds(200)-1, face(2216, 10, 31, 23, 59, 60, 1048575))
}

func TestFaceAtTheFirstChange(t *testing.T) {
	l := tableOf(july1972, 11)
	checkFace(t, l, a+seconds(10), face(1972, 6, 30, 23, 59, 59, 0))
	checkFace(t, l, a+seconds(11), face(1972, 7, 1, 0, 0, 0, 0))
}

func TestFaceAtTheEndsOfTheCalendar(t *testing.T) {
	for _, offset := range []int{0, 1, 10, 200} {
		l := tableOf(0, offset)
		if offset > 0 {
			checkNoFace(t, l, 0)
			checkNoFace(t, l, seconds(offset)-api.Second)
			checkNoFace(t, l, seconds(offset)-1)
		}
		checkFace(t, l, seconds(offset), face(1900, 1, 1, 0, 0, 0, 0))
		checkFace(t, l, seconds(offset)+1, face(1900, 1, 1, 0, 0, 0, 1))
		end := seconds(yearTenThousand + offset)
		checkFace(t, l, end-api.Second, face(9999, 12, 31, 23, 59, 59, 0))
		checkFace(t, l, end-1, face(9999, 12, 31, 23, 59, 59, 1048575))
		checkNoFace(t, l, end)
		checkNoFace(t, l, end+1)
		checkNoFace(t, l, 1<<58-1)
		checkNoFace(t, l, 1<<58)
	}
	for _, l := range rightTables() {
		for _, u := range []api.Time{-1, -api.Second, 1<<58 + 1, api.Far, -api.Far, math.MinInt64, math.MaxInt64} {
			checkNoFace(t, l, u)
		}
	}
}

// A list that has expired still shows clockfaces.
func TestFaceBehindExpires(t *testing.T) {
	l := exampleTable()
	l.Expires = 0
	checkFace(t, l, a+seconds(10), face(1972, 6, 30, 23, 59, 60, 0))
	checkFace(t, l, a+seconds(86411+3661), face(1972, 7, 2, 1, 1, 1, 0))
}

// wantedFace is that of another calendar, of UTC by the chapter's words.
func wantedFace(l api.Leaps, u api.Time) (api.Clockface, api.Errno) {
	x, in := wantedUTC(l, u)
	if x < 0 || x >= seconds(yearTenThousand) {
		return api.Clockface{}, api.ErrRange
	}
	d := time.Unix(int64(x/api.Second)-since1900, 0).UTC()
	want := face(d.Year(), int(d.Month()), d.Day(), d.Hour(), d.Minute(), d.Second(), int(x%api.Second))
	if in {
		want.Hour, want.Minute, want.Second = 23, 59, 60
	}
	return want, api.OK
}

func checkFaceByWords(t *testing.T, l api.Leaps, u api.Time) {
	t.Helper()
	want, wantErrno := wantedFace(l, u)
	if got, errno := Face(l, u); got != want || errno != wantErrno {
		t.Errorf("Face of %d = %v, %v; want %v, %v", u, got, errno, want, wantErrno)
	}
}

func TestFaceOfAllTables(t *testing.T) {
	r := rand.New(rand.NewSource(86))
	tables := rightTables()
	for range 200 {
		tables = append(tables, randomTable(r, 12))
	}
	for _, l := range tables {
		for _, u := range edgeTimes(l) {
			checkFaceByWords(t, l, u)
		}
		for range 200 {
			checkFaceByWords(t, l, api.Time(r.Int63n(1<<58+1)))
		}
	}
}
