package leap

import (
	"math"
	"slices"
	"testing"
	"time"

	"sundial/api"
)

// P8.1
func TestCheckOfTheExamples(t *testing.T) {
	checkAccepted(t, exampleTable())
	for _, change := range []func(*api.Leaps){
		func(l *api.Leaps) { l.Changes[0].At = 1 },
		func(l *api.Leaps) { l.Changes[1].Offset = 12 },
		func(l *api.Leaps) { l.Changes = nil },
		func(l *api.Leaps) { l.Expires = 10000000000 * api.Second },
	} {
		l := exampleTable()
		change(&l)
		checkRefused(t, l)
	}
}

func TestCheckOfRightTables(t *testing.T) {
	for _, l := range append(rightTables(), fullTable()) {
		checkAccepted(t, l)
	}
}

func TestCheckOfNoChanges(t *testing.T) {
	checkRefused(t, api.Leaps{})
	checkRefused(t, api.Leaps{Changes: []api.Change{}, Expires: seconds(5)})
	checkRefused(t, api.Leaps{Changes: exampleTable().Changes[:0], Expires: seconds(5)})
}

// wrongAts are times at which no change may be.
func wrongAts() []api.Time {
	ats := []api.Time{
		-1, 1, -api.Second, api.Second, seconds(86400), seconds(86400 - 1), -seconds(86400), seconds(-31 * 86400), -monthAt(1),
		math.MinInt64, math.MinInt64 + 1, math.MaxInt64, math.MaxInt64 - 1, api.Far, -api.Far, 1 << 58,
		monthAt(lastMonth + 1), monthAt(lastMonth + 2), monthAt((2228 - 1900) * 12), monthAt((9999-1900)*12 + 11), monthAt((9999-1900)*12 + 12), seconds(9999999999), seconds(10000000000),
	}
	for _, n := range []int{1, 2, january1972, july1972, lastMonth} {
		at := monthAt(n)
		ats = append(ats, at-1, at+1, at-api.Second, at+api.Second, at+api.Second/2, at-seconds(3600), at+seconds(43200), at-seconds(86400), at+seconds(86400), at+seconds(14*86400))
	}
	return ats
}

func TestCheckOfWrongAts(t *testing.T) {
	for _, at := range wrongAts() {
		checkRefused(t, api.Leaps{Changes: []api.Change{{At: at, Offset: 10}}})
		checkRefused(t, api.Leaps{Changes: []api.Change{{At: at, Offset: 10}, {At: monthAt(lastMonth), Offset: 11}}})
		checkRefused(t, api.Leaps{Changes: []api.Change{{At: 0, Offset: 10}, {At: at, Offset: 11}}})
		checkRefused(t, api.Leaps{Changes: []api.Change{{At: 0, Offset: 10}, {At: at, Offset: 11}, {At: monthAt(lastMonth), Offset: 12}}})
	}
}

// Every day of the years that a table may speak of, and some beyond, against another calendar.
func TestCheckOfEveryDay(t *testing.T) {
	date := time.Date(1900, 1, 1, 0, 0, 0, 0, time.UTC)
	firsts := 0
	for n := range 120000 {
		l := api.Leaps{Changes: []api.Change{{At: seconds(n * 86400)}}}
		want := api.ErrShape
		if date.Day() == 1 && n*86400 <= 9999999999 {
			want = api.OK
			firsts++
		}
		if errno := Check(l); errno != want {
			t.Fatalf("%v: %v; want %v", date, errno, want)
		}
		date = date.AddDate(0, 0, 1)
	}
	if firsts != lastMonth+1 {
		t.Errorf("%d months begin", firsts)
	}
}

func TestCheckOfAtsThatDoNotRise(t *testing.T) {
	checkRefused(t, tableOf(0, 10, 0, 11))
	checkRefused(t, tableOf(0, 10, 0, 9))
	checkRefused(t, tableOf(1, 10, 0, 11))
	checkRefused(t, tableOf(lastMonth, 10, 0, 9))
	checkRefused(t, tableOf(1, 10, 2, 11, 2, 12))
	checkRefused(t, tableOf(1, 10, 3, 11, 2, 12))
	checkRefused(t, tableOf(1, 10, 3, 11, 1, 12))
	checkRefused(t, tableOf(2, 10, 1, 11, 3, 12))
	for i := range len(trueTable().Changes) - 1 {
		l := trueTable()
		l.Changes[i].At, l.Changes[i+1].At = l.Changes[i+1].At, l.Changes[i].At
		checkRefused(t, l)
		l = trueTable()
		l.Changes[i].At = l.Changes[i+1].At
		checkRefused(t, l)
	}
}

func TestCheckOfOffsets(t *testing.T) {
	for _, offset := range []int{-1, 201, 202, -200, -201, 1 << 20, 10 << 32, math.MinInt64, math.MaxInt64, math.MinInt32, math.MaxInt32, 1 << 32} {
		checkRefused(t, tableOf(0, offset))
		checkRefused(t, tableOf(0, offset, 1, 10))
		checkRefused(t, tableOf(0, 10, 1, offset))
		checkRefused(t, tableOf(0, offset-1, 1, offset))
		checkRefused(t, tableOf(0, offset+1, 1, offset))
	}
	for first := -2; first <= 202; first++ {
		for second := -2; second <= 202; second++ {
			isRight := 0 <= first && first <= 200 && 0 <= second && second <= 200 && (second == first+1 || second == first-1)
			want := api.ErrShape
			if isRight {
				want = api.OK
			}
			if errno := Check(tableOf(3, first, 4, second)); errno != want {
				t.Errorf("offsets %d and %d: %v; want %v", first, second, errno, want)
			}
		}
	}
	for i := range trueTable().Changes {
		for _, step := range []int{-3, -1, 1, 3} {
			// One offset alone that is another: beside the ends two neighbours are then no longer one apart.
			l := trueTable()
			l.Changes[i].Offset += step
			checkRefused(t, l)
		}
	}
}

func TestCheckOfExpires(t *testing.T) {
	for _, expires := range []api.Time{0, api.Second, seconds(59), seconds(86400), a, a + api.Second, seconds(4294967296), seconds(9999999998), seconds(9999999999)} {
		for _, l := range rightTables() {
			l.Expires = expires
			checkAccepted(t, l)
		}
	}
	for _, expires := range []api.Time{
		-1, -api.Second, -a, 1, api.Second - 1, api.Second + 1, api.Second / 2, a + 1, a - 1, a + api.Second/2,
		seconds(9999999999) - 1, seconds(9999999999) + 1, seconds(10000000000), seconds(10000000001), 1 << 58, api.Far, -api.Far, math.MaxInt64, math.MinInt64,
	} {
		l := exampleTable()
		l.Expires = expires
		checkRefused(t, l)
		checkRefused(t, api.Leaps{Changes: []api.Change{{}}, Expires: expires})
	}
}

// Each change of a great table is looked at.
func TestCheckOfOneWrongAmongMany(t *testing.T) {
	l := monthlyTable(1000)
	for i := range l.Changes {
		was := l.Changes[i]
		for _, wrong := range []api.Change{{At: was.At + 1, Offset: was.Offset}, {At: was.At + seconds(86400), Offset: was.Offset}, {At: was.At, Offset: was.Offset + 3}, {At: was.At, Offset: -1}} {
			l.Changes[i] = wrong
			if errno := Check(l); errno != api.ErrShape {
				t.Errorf("change %d is %v: %v", i, wrong, errno)
			}
		}
		l.Changes[i] = was
	}
	checkAccepted(t, l)
	l.Changes = slices.Delete(l.Changes, 7, 8)
	checkRefused(t, l)
}
