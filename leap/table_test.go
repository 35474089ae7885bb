package leap

import (
	"math"
	"slices"
	"testing"
	"time"

	"sundial/api"
)

// What the tests of all calls share: tables, and the chapter's words in another form.

// since1900 is the seconds from the beginning of 1900 to that of 1970.
const since1900 = 2208988800

func seconds(n int) api.Time { return api.Time(n) * api.Second }

// monthAt is the time at which the month begins so many months behind January 1900, by another calendar.
func monthAt(n int) api.Time {
	return seconds(int(time.Date(1900, time.Month(1+n), 1, 0, 0, 0, 0, time.UTC).Unix()) + since1900)
}

// lastMonth is that of November 2216, the last that begins within 9999999999 seconds.
const lastMonth = (2216-1900)*12 + 10

// tableOf takes pairs of a month's number and an offset. It expires late.
func tableOf(pairs ...int) api.Leaps {
	l := api.Leaps{Expires: seconds(9999999999)}
	for i := 0; i < len(pairs); i += 2 {
		l.Changes = append(l.Changes, api.Change{At: monthAt(pairs[i]), Offset: pairs[i+1]})
	}
	return l
}

const (
	// a is the time of the example's second change, in ticks.
	a = 2287785600 * api.Second

	// The months of the example's changes.
	january1972 = 72 * 12
	july1972    = 72*12 + 6
)

func exampleTable() api.Leaps {
	return api.Leaps{Changes: []api.Change{{At: 2272060800 * api.Second, Offset: 10}, {At: a, Offset: 11}}, Expires: 2300000000 * api.Second}
}

// trueTable is all leap seconds that there were from 1972 to 2017.
func trueTable() api.Leaps {
	l := api.Leaps{Expires: seconds(3991766400)}
	for i, at := range []int{
		2272060800, 2287785600, 2303683200, 2335219200, 2366755200, 2398291200, 2429913600, 2461449600, 2492985600, 2524521600,
		2571782400, 2603318400, 2634854400, 2698012800, 2776982400, 2840140800, 2871676800, 2918937600, 2950473600, 2982009600,
		3029443200, 3076704000, 3124137600, 3345062400, 3439756800, 3550089600, 3644697600, 3692217600,
	} {
		l.Changes = append(l.Changes, api.Change{At: seconds(at), Offset: 10 + i})
	}
	return l
}

// monthlyTable has a change at the beginning of each of so many months: offsets rise from 0 to 200, fall to 0, and so on.
func monthlyTable(months int) api.Leaps {
	var pairs []int
	for n := range months {
		offset := n % 400
		if offset > 200 {
			offset = 400 - offset
		}
		pairs = append(pairs, n, offset)
	}
	return tableOf(pairs...)
}

// fullTable has as many changes as there may be.
func fullTable() api.Leaps { return monthlyTable(lastMonth + 1) }

func rightTables() []api.Leaps {
	return []api.Leaps{
		exampleTable(), trueTable(), monthlyTable(450),
		tableOf(0, 0), tableOf(0, 200), tableOf(0, 1), tableOf(1, 0), tableOf(july1972, 37), tableOf(lastMonth, 0), tableOf(lastMonth, 200),
		tableOf(0, 0, 1, 1), tableOf(0, 1, 1, 0), tableOf(0, 199, 1, 200), tableOf(0, 200, 1, 199), tableOf(0, 0, lastMonth, 1), tableOf(lastMonth-1, 200, lastMonth, 199),
		tableOf(january1972, 10, july1972, 9), tableOf(january1972, 10, july1972, 11, july1972+6, 10, july1972+7, 11, july1972+8, 12, july1972+9, 11, july1972+10, 10),
		{Changes: []api.Change{{}}}, {Changes: []api.Change{{}}, Expires: seconds(1)},
	}
}

func clone(l api.Leaps) api.Leaps {
	l.Changes = slices.Clone(l.Changes)
	return l
}

func same(l, other api.Leaps) bool {
	return l.Expires == other.Expires && slices.Equal(l.Changes, other.Changes)
}

// wantedUTC is UTC by the chapter's words: first the leap second, then the offset.
func wantedUTC(l api.Leaps, u api.Time) (api.Time, bool) {
	offset := l.Changes[0].Offset
	for i, c := range l.Changes {
		if i == 0 {
			continue
		}
		if c.Offset == l.Changes[i-1].Offset+1 && u >= c.At+seconds(c.Offset-1) && u < c.At+seconds(c.Offset) {
			return u - seconds(c.Offset), true
		}
		if u >= c.At+seconds(c.Offset) {
			offset = c.Offset
		}
	}
	return u - seconds(offset), false
}

// wantedEven tries all offsets that there may be.
func wantedEven(l api.Leaps, t api.Time) []api.Time {
	var times []api.Time
	for offset := range 201 {
		u := t + seconds(offset)
		if x, _ := wantedUTC(l, u); u >= 0 && x == t {
			times = append(times, u)
		}
	}
	return times
}

// wantedWarn is Warn by the chapter's words, of a u in range.
func wantedWarn(l api.Leaps, u api.Time) (int, api.Errno) {
	t, _ := wantedUTC(l, u)
	if t >= l.Expires {
		return 0, api.ErrOld
	}
	for i, c := range l.Changes {
		if i == 0 || t >= c.At || t < c.At-seconds(86400) || u >= c.At+seconds(c.Offset) {
			continue
		}
		if c.Offset > l.Changes[i-1].Offset {
			return 1, api.OK
		}
		return 2, api.OK
	}
	return 0, api.OK
}

// edgeTimes is the times around what happens at the changes of l: seconds, halves and ticks on both sides, those of a day ahead too.
func edgeTimes(l api.Leaps) []api.Time {
	var around []api.Time
	for half := -8; half <= 8; half++ {
		for tick := -1; tick <= 1; tick++ {
			around = append(around, api.Time(half)*api.Second/2+api.Time(tick))
		}
	}
	times := []api.Time{0, 1, api.Second, 1<<58 - 1, 1 << 58}
	for _, c := range edgeChanges(l) {
		for _, step := range around {
			times = append(times, c.At+step, c.At+seconds(c.Offset)+step, c.At+seconds(c.Offset-86400)+step, c.At-seconds(86400)+step)
		}
	}
	return slices.DeleteFunc(times, func(u api.Time) bool { return u < 0 || u > 1<<58 })
}

// edgeChanges is the changes of l, but of a great many those at the ends, and some between them.
func edgeChanges(l api.Leaps) []api.Change {
	if len(l.Changes) <= 100 {
		return l.Changes
	}
	var some []api.Change
	for i, c := range l.Changes {
		if i < 3 || i%101 == 0 || i%200 < 2 || i+3 > len(l.Changes) {
			some = append(some, c)
		}
	}
	return some
}

// checkRefused holds that every call refuses the table l, whatever time it is handed.
func checkRefused(t *testing.T, l api.Leaps) {
	t.Helper()
	was := clone(l)
	if errno := Check(l); errno != api.ErrShape {
		t.Errorf("Check(%v) = %v; want ErrShape", l, errno)
	}
	if text, errno := Format(l); text != "" || errno != api.ErrShape {
		t.Errorf("Format(%v) = %q, %v; want ErrShape", l, text, errno)
	}
	for _, u := range []api.Time{0, a, -1, 1 << 58, 1<<58 + 1, math.MinInt64, math.MaxInt64} {
		if x, in, errno := UTC(l, u); x != 0 || in || errno != api.ErrShape {
			t.Errorf("UTC(%v, %d) = %d, %t, %v; want ErrShape", l, u, x, in, errno)
		}
		if times, errno := Even(l, u); len(times) != 0 || errno != api.ErrShape {
			t.Errorf("Even(%v, %d) = %d, %v; want ErrShape", l, u, times, errno)
		}
		if n, errno := Warn(l, u); n != 0 || errno != api.ErrShape {
			t.Errorf("Warn(%v, %d) = %d, %v; want ErrShape", l, u, n, errno)
		}
		if face, errno := Face(l, u); face != (api.Clockface{}) || errno != api.ErrShape {
			t.Errorf("Face(%v, %d) = %v, %v; want ErrShape", l, u, face, errno)
		}
	}
	if !same(l, was) {
		t.Errorf("%v was changed to %v", was, l)
	}
}

func checkAccepted(t *testing.T, l api.Leaps) {
	t.Helper()
	if errno := Check(l); errno != api.OK {
		t.Errorf("Check(%.200v) = %v; want OK", l, errno)
	}
}
