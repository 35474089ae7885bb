package civil

import (
	"math"
	"math/rand"
	"testing"
	"time"

	"sundial/api"
)

const (
	day = 86400 * api.Second

	// end is the first time that no clockface shows.
	end = days * day

	// unixBegin is the seconds from the beginning of 1900 to that of 1970.
	unixBegin = 2208988800
)

func face(d api.Date, hour, minute, second, tick int) api.Clockface {
	return api.Clockface{Date: d, Hour: hour, Minute: minute, Second: second, Tick: tick}
}

// calendarFace is the clockface of a time, by another calendar than the program's.
func calendarFace(x api.Time) api.Clockface {
	at := time.Unix(int64(x/api.Second)-unixBegin, 0).UTC()
	return face(date(at.Year(), int(at.Month()), at.Day()), at.Hour(), at.Minute(), at.Second(), int(x%api.Second))
}

// showAndTell holds both calls to one time and its clockface.
func showAndTell(t *testing.T, x api.Time, c api.Clockface) {
	t.Helper()
	if got, e := Show(x); got != c || e != api.OK {
		t.Errorf("Show(%d) = %v, %v; want %v", x, got, e, c)
	}
	if got, e := Tell(c); got != x || e != api.OK {
		t.Errorf("Tell(%v) = %d, %v; want %d", c, got, e, x)
	}
}

// P3.4
func TestShowAndTellExamples(t *testing.T) {
	showAndTell(t, 0, face(date(1900, 1, 1), 0, 0, 0, 0))
	showAndTell(t, 1, face(date(1900, 1, 1), 0, 0, 0, 1))
	showAndTell(t, api.Second-1, face(date(1900, 1, 1), 0, 0, 0, 1048575))
	showAndTell(t, api.Second, face(date(1900, 1, 1), 0, 0, 1, 0))
	showAndTell(t, 60*api.Second-1, face(date(1900, 1, 1), 0, 0, 59, 1048575))
	showAndTell(t, 60*api.Second, face(date(1900, 1, 1), 0, 1, 0, 0))
	showAndTell(t, 3600*api.Second-1, face(date(1900, 1, 1), 0, 59, 59, 1048575))
	showAndTell(t, 3600*api.Second, face(date(1900, 1, 1), 1, 0, 0, 0))
	showAndTell(t, day-1, face(date(1900, 1, 1), 23, 59, 59, 1048575))
	showAndTell(t, day, face(date(1900, 1, 2), 0, 0, 0, 0))
	showAndTell(t, 90061*api.Second+5, face(date(1900, 1, 2), 1, 1, 1, 5))
	showAndTell(t, 2272060800*api.Second, face(date(1972, 1, 1), 0, 0, 0, 0))
	showAndTell(t, 36584*day-1, face(date(2000, 2, 29), 23, 59, 59, 1048575))
	showAndTell(t, 46339*day+12*3600*api.Second+524288, face(date(2026, 11, 15), 12, 0, 0, 524288))
	showAndTell(t, end-day-1, face(date(9999, 12, 30), 23, 59, 59, 1048575))
	showAndTell(t, end-day, face(date(9999, 12, 31), 0, 0, 0, 0))
	showAndTell(t, end-1, face(date(9999, 12, 31), 23, 59, 59, 1048575))
}

func TestShowRefusesTimesBeyondTheCalendar(t *testing.T) {
	for _, x := range []api.Time{
		-1, -2, -api.Second + 1, -api.Second, -day + 1, -day, -day - 1, end, end + 1, end + api.Second, end + day, end + 365*day,
		api.Far, -api.Far, api.Far + 1, math.MaxInt64, math.MaxInt64 - 1, math.MinInt64, math.MinInt64 + 1,
		// Their days look like days of the calendar, if they are cut to fewer bits.
		1 << 62, -1 << 62, 1 << 60, -1 << 60, 1 << 58,
	} {
		if c, e := Show(x); c != (api.Clockface{}) || e != api.ErrRange {
			t.Errorf("Show(%d) = %v, %v", x, c, e)
		}
	}
}

func TestTellRefusesWhatIsNoClockface(t *testing.T) {
	some := []api.Date{date(1900, 1, 1), date(1972, 6, 30), date(2026, 11, 15), date(9999, 12, 31)}
	for _, d := range some {
		for _, wild := range []int{-1, -2, 1 << 32, -1 << 32, math.MaxInt, math.MaxInt - 1, math.MinInt, math.MinInt + 1} {
			refuseFace(t, face(d, wild, 0, 0, 0))
			refuseFace(t, face(d, 0, wild, 0, 0))
			refuseFace(t, face(d, 0, 0, wild, 0))
			refuseFace(t, face(d, 0, 0, 0, wild))
			refuseFace(t, face(d, wild, wild, wild, wild))
		}
		for _, c := range []api.Clockface{
			face(d, 24, 0, 0, 0), face(d, 25, 0, 0, 0), face(d, 0, 60, 0, 0), face(d, 23, 60, 0, 0), face(d, 0, 0, 60, 0), face(d, 0, 0, 61, 0),
			face(d, 23, 59, 60, 0), face(d, 23, 59, 60, 1048575), face(d, 0, 0, 0, 1048576), face(d, 23, 59, 59, 1048576), face(d, 24, 60, 60, 1048576),
			// Wrong parts that make up for each other.
			face(d, 24, -60, 0, 0), face(d, -1, 59, 60, 1048576), face(d, 1, -1, 60, 0), face(d, 12, 0, -1, 1048576), face(d, 12, 1, -60, 0), face(d, 12, 0, 1, -1048576),
		} {
			refuseFace(t, c)
		}
	}
	for _, d := range wrongDates() {
		refuseFace(t, face(d, 12, 30, 30, 5))
		refuseFace(t, face(d, 24, 60, 60, 1048576))
	}
}

func refuseFace(t *testing.T, c api.Clockface) {
	t.Helper()
	if x, e := Tell(c); x != 0 || e != api.ErrShape {
		t.Errorf("Tell(%v) = %d, %v", c, x, e)
	}
}

func TestTellOfEveryPartAroundItsEnds(t *testing.T) {
	d := date(2026, 11, 15)
	for _, hour := range []int{-1, 0, 1, 22, 23, 24} {
		for _, minute := range []int{-1, 0, 1, 58, 59, 60} {
			for _, second := range []int{-1, 0, 1, 58, 59, 60} {
				for _, tick := range []int{-1, 0, 1, 1048574, 1048575, 1048576} {
					c := face(d, hour, minute, second, tick)
					if hour < 0 || hour > 23 || minute < 0 || minute > 59 || second < 0 || second > 59 || tick < 0 || tick > 1048575 {
						refuseFace(t, c)
						continue
					}
					seconds := api.Time(46339*86400 + hour*3600 + minute*60 + second)
					showAndTell(t, seconds*1048576+api.Time(tick), c)
				}
			}
		}
	}
}

func TestFirstAndLastTickOfEveryDay(t *testing.T) {
	for n := range days {
		d := calendarDay(n)
		first := api.Time(n) * day
		showAndTell(t, first, face(d, 0, 0, 0, 0))
		showAndTell(t, first+day-1, face(d, 23, 59, 59, 1048575))
		if t.Failed() {
			return
		}
	}
}

func TestEverySecondOfADay(t *testing.T) {
	for s := range api.Time(86400) {
		for _, x := range []api.Time{46339*day + s*api.Second, 46339*day + s*api.Second + 1048575} {
			showAndTell(t, x, calendarFace(x))
		}
	}
}

// P3.5
func TestTimesAndClockfacesAreOneToOne(t *testing.T) {
	r := rand.New(rand.NewSource(34))
	for range 200000 {
		x, y := api.Time(r.Int63n(int64(end))), api.Time(r.Int63n(int64(end)))
		if r.Intn(2) == 0 {
			y = min(x+api.Time(r.Intn(3)), end-1)
		}
		a, b := calendarFace(x), calendarFace(y)
		showAndTell(t, x, a)
		showAndTell(t, y, b)
		if (a == b) != (x == y) {
			t.Errorf("%d and %d show %v and %v", x, y, a, b)
		}
	}
}
