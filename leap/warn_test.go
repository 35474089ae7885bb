package leap

import (
	"math"
	"math/rand"
	"testing"

	"sundial/api"
)

func checkWarn(t *testing.T, l api.Leaps, u api.Time, want int) {
	t.Helper()
	if n, errno := Warn(l, u); n != want || errno != api.OK {
		t.Errorf("Warn of %d = %d, %v; want %d", u, n, errno, want)
	}
}

func checkOld(t *testing.T, l api.Leaps, u api.Time) {
	t.Helper()
	if n, errno := Warn(l, u); n != 0 || errno != api.ErrOld {
		t.Errorf("Warn of %d = %d, %v; want ErrOld", u, n, errno)
	}
}

// P8.5
func TestWarnOfTheExamples(t *testing.T) {
	l := exampleTable()
	checkWarn(t, l, a-seconds(100000), 0)
	checkWarn(t, l, a, 1)
	checkWarn(t, l, a+seconds(10), 1)
	checkWarn(t, l, a+seconds(11), 0)
}

func TestWarnADayAheadOfALeapSecond(t *testing.T) {
	l := exampleTable()
	dayAhead := a + seconds(10-86400)
	checkWarn(t, l, dayAhead-seconds(1), 0)
	checkWarn(t, l, dayAhead-1, 0)
	checkWarn(t, l, dayAhead, 1)
	checkWarn(t, l, dayAhead+1, 1)
	checkWarn(t, l, a+seconds(10)-1, 1)
	// The leap second itself, and what lies behind it.
	checkWarn(t, l, a+seconds(10), 1)
	checkWarn(t, l, a+seconds(11)-1, 1)
	checkWarn(t, l, a+seconds(11), 0)
	checkWarn(t, l, a+seconds(11)+1, 0)
	checkWarn(t, l, a+seconds(86411), 0)
}

func TestWarnADayAheadOfASecondTakenAway(t *testing.T) {
	l := exampleTable()
	l.Changes[1].Offset = 9
	dayAhead := a + seconds(10-86400)
	checkWarn(t, l, dayAhead-1, 0)
	checkWarn(t, l, dayAhead, 2)
	checkWarn(t, l, dayAhead+1, 2)
	checkWarn(t, l, a+seconds(9)-1, 2)
	checkWarn(t, l, a+seconds(9), 0)
	checkWarn(t, l, a+seconds(9)+1, 0)
	checkWarn(t, l, a+seconds(10), 0)
}

// The first change adds nothing, and takes nothing away.
func TestWarnAheadOfTheFirstChange(t *testing.T) {
	for _, l := range []api.Leaps{tableOf(july1972, 11), tableOf(july1972, 11, july1972+1, 12), tableOf(july1972, 0), tableOf(july1972, 200)} {
		offset := seconds(l.Changes[0].Offset)
		for _, u := range []api.Time{a - seconds(86400), a - seconds(86399), a - seconds(43200), a - seconds(1), a - 1, a, a + 1} {
			checkWarn(t, l, u, 0)
			checkWarn(t, l, u+offset, 0)
		}
	}
	l := tableOf(0, 10)
	for _, u := range []api.Time{0, 1, seconds(10) - 1, seconds(10), seconds(86400)} {
		checkWarn(t, l, u, 0)
	}
}

func TestWarnOfManyChanges(t *testing.T) {
	l := tableOf(january1972, 10, july1972, 11, july1972+1, 10, july1972+2, 11, july1972+3, 12, july1972+4, 11)
	for i, want := range []int{1, 2, 1, 1, 2} {
		at, before := l.Changes[i+1].At, l.Changes[i].Offset
		checkWarn(t, l, at+seconds(before-86400)-1, 0)
		checkWarn(t, l, at+seconds(before-86400), want)
		checkWarn(t, l, at+seconds(before-43200), want)
		checkWarn(t, l, at+seconds(before-1)-1, want)
		checkWarn(t, l, at+seconds(before+1), 0)
	}
	for i, c := range trueTable().Changes[1:] {
		checkWarn(t, trueTable(), c.At+seconds(c.Offset-2), 1)
		checkWarn(t, trueTable(), c.At+seconds(c.Offset-1), 1)
		checkWarn(t, trueTable(), c.At+seconds(c.Offset), 0)
		checkWarn(t, trueTable(), c.At-seconds(14*86400+i), 0)
	}
}

func TestWarnAtExpires(t *testing.T) {
	l := exampleTable()
	end := l.Expires + seconds(11)
	checkWarn(t, l, end-1, 0)
	checkWarn(t, l, end-seconds(1), 0)
	checkOld(t, l, end)
	checkOld(t, l, end+1)
	checkOld(t, l, end+seconds(1000000000))
	checkOld(t, l, 1<<58)
	// Far ahead of any change, too, and where the day's end adds a second.
	l.Expires = seconds(100)
	checkWarn(t, l, seconds(110)-1, 0)
	checkOld(t, l, seconds(110))
	checkOld(t, l, a)
	l.Expires = 0
	checkWarn(t, l, 0, 0)
	checkWarn(t, l, seconds(10)-1, 0)
	checkOld(t, l, seconds(10))
	l.Expires = seconds(9999999999)
	checkWarn(t, l, seconds(9999999999+11)-1, 0)
	checkOld(t, l, seconds(9999999999+11))
}

// Expires is a UTC time: where UTC goes back, what was old is so no more.
func TestWarnWhereAListExpiresAtALeapSecond(t *testing.T) {
	l := exampleTable()
	l.Expires = a
	checkWarn(t, l, a+seconds(10)-1, 1)
	checkWarn(t, l, a+seconds(10), 1)
	checkWarn(t, l, a+seconds(11)-1, 1)
	checkOld(t, l, a+seconds(11))
	l.Expires = a - seconds(1)
	checkWarn(t, l, a+seconds(9)-1, 1)
	checkOld(t, l, a+seconds(9))
	checkOld(t, l, a+seconds(10)-1)
	checkOld(t, l, a+seconds(10))
	checkOld(t, l, a+seconds(11)-1)
	checkOld(t, l, a+seconds(11))
	// Where a second is taken away, the first time behind it is that of At.
	l.Changes[1].Offset = 9
	checkWarn(t, l, a+seconds(9)-1, 2)
	checkOld(t, l, a+seconds(9))
	l.Expires = a
	checkWarn(t, l, a+seconds(9)-1, 2)
	checkOld(t, l, a+seconds(9))
	l.Expires = a + seconds(1)
	checkWarn(t, l, a+seconds(9), 0)
	checkWarn(t, l, a+seconds(10)-1, 0)
	checkOld(t, l, a+seconds(10))
}

func TestWarnOutOfRange(t *testing.T) {
	for _, l := range rightTables() {
		for _, u := range []api.Time{-1, -api.Second, 1<<58 + 1, api.Far, -api.Far, math.MinInt64, math.MaxInt64} {
			if n, errno := Warn(l, u); n != 0 || errno != api.ErrRange {
				t.Errorf("Warn of %d = %d, %v; want ErrRange", u, n, errno)
			}
		}
	}
}

func checkWarnByWords(t *testing.T, l api.Leaps, u api.Time) {
	t.Helper()
	want, wantErrno := wantedWarn(l, u)
	if n, errno := Warn(l, u); n != want || errno != wantErrno {
		t.Errorf("Warn of %d = %d, %v; want %d, %v", u, n, errno, want, wantErrno)
	}
}

func TestWarnOfAllTables(t *testing.T) {
	r := rand.New(rand.NewSource(85))
	tables := rightTables()
	for range 200 {
		tables = append(tables, randomTable(r, 12))
	}
	for _, l := range tables {
		for _, u := range edgeTimes(l) {
			checkWarnByWords(t, l, u)
		}
		for range 100 {
			checkWarnByWords(t, l, api.Time(r.Int63n(int64(seconds(10000000000)))))
		}
	}
}
