package radio

import (
	"math"
	"math/rand"
	"testing"
	"time"

	"sundial/api"
)

// monthAt is the time at which the month begins so many months behind January 1900, by another calendar.
func monthAt(n int) api.Time {
	return api.Time(time.Date(1900, time.Month(1+n), 1, 0, 0, 0, 0, time.UTC).Unix()+since1900) * second
}

// lastMonth is that of November 2216, the last that a table may hold.
const lastMonth = (2216-1900)*12 + 10

// tableOf takes pairs of a month's number and an offset.
func tableOf(pairs ...int) api.Leaps {
	var l api.Leaps
	for i := 0; i < len(pairs); i += 2 {
		l.Changes = append(l.Changes, api.Change{At: monthAt(pairs[i]), Offset: pairs[i+1]})
	}
	return l
}

// july is the example's second change: a second put in ahead of July 1972.
const july = 2287785600 * second

func putIn() api.Leaps   { return tableOf(864, 10, 870, 11) }
func leftOut() api.Leaps { return tableOf(864, 10, 870, 9) }

func checkSpan(t *testing.T, l api.Leaps, x, bound api.Time, want api.Span) {
	t.Helper()
	if s, errno := Span(l, x, bound); s != want || errno != api.OK {
		t.Fatalf("Span(%.300v, %d, %d) = %v, %v; want %v", l, x, bound, s, errno, want)
	}
}

func checkNoSpan(t *testing.T, l api.Leaps, x, bound api.Time, want api.Errno) {
	t.Helper()
	if s, errno := Span(l, x, bound); s != (api.Span{}) || errno != want {
		t.Fatalf("Span(%.300v, %d, %d) = %v, %v; want %v", l, x, bound, s, errno, want)
	}
}

// bounds are all that may be, at the edges.
func bounds() []api.Time {
	return []api.Time{0, 1, 3, second / 10, second, 1<<40 - 1, 1 << 40}
}

// P13.5
func TestSpanOfOneEvenTime(t *testing.T) {
	for _, bound := range bounds() {
		for _, l := range []api.Leaps{putIn(), leftOut(), tableOf(0, 10), tableOf(864, 10), tableOf(870, 10, 871, 11)} {
			for _, x := range []api.Time{0, 1, second, july - second - 1, july - 10*second} {
				checkSpan(t, l, x, bound, span(x+10*second-bound, x+10*second+bound))
			}
		}
		for _, x := range []api.Time{july, july + 1, july + second, 1<<58 - 1, 1 << 58} {
			checkSpan(t, putIn(), x, bound, span(x+11*second-bound, x+11*second+bound))
			checkSpan(t, leftOut(), x, bound, span(x+9*second-bound, x+9*second+bound))
			checkSpan(t, tableOf(0, 0), x, bound, span(x-bound, x+bound))
			checkSpan(t, tableOf(0, 200), x, bound, span(x+200*second-bound, x+200*second+bound))
		}
	}
}

// In the second that is gone through twice the span holds both.
func TestSpanAtASecondPutIn(t *testing.T) {
	for _, bound := range bounds() {
		for _, x := range []api.Time{july - second, july - second + 1, july - second/2, july - 1} {
			checkSpan(t, putIn(), x, bound, span(x+10*second-bound, x+11*second+bound))
		}
		checkSpan(t, putIn(), july-second-1, bound, span(july+9*second-1-bound, july+9*second-1+bound))
		checkSpan(t, putIn(), july, bound, span(july+11*second-bound, july+11*second+bound))
		checkSpan(t, tableOf(0, 0, 1, 1), monthAt(1)-1, bound, span(monthAt(1)-1-bound, monthAt(1)-1+second+bound))
	}
}

func TestSpanAtASecondLeftOut(t *testing.T) {
	for _, bound := range bounds() {
		for _, x := range []api.Time{july - second, july - second + 1, july - second/2, july - 1} {
			checkNoSpan(t, leftOut(), x, bound, api.ErrNone)
		}
		checkSpan(t, leftOut(), july-second-1, bound, span(july+9*second-1-bound, july+9*second-1+bound))
		checkSpan(t, leftOut(), july, bound, span(july+9*second-bound, july+9*second+bound))
	}
}

// The first change puts no second in, whatever its Offset.
func TestSpanAroundTheFirstChange(t *testing.T) {
	for _, l := range []api.Leaps{tableOf(870, 11), tableOf(870, 11, 871, 12)} {
		for _, x := range []api.Time{july - second, july - 1, july, july + 1} {
			checkSpan(t, l, x, 5, span(x+11*second-5, x+11*second+5))
		}
	}
}

// A bound takes the span below the beginning of 1900, and above the last UTC time.
func TestSpanBeyondTheCallsTimes(t *testing.T) {
	checkSpan(t, tableOf(0, 0), 0, 1, span(-1, 1))
	checkSpan(t, tableOf(0, 0), 0, 1<<40, span(-1<<40, 1<<40))
	checkSpan(t, tableOf(0, 200), 1<<58, 1<<40, span(1<<58+200*second-1<<40, 1<<58+200*second+1<<40))
	checkSpan(t, tableOf(0, 199, lastMonth, 200), monthAt(lastMonth)-1, 0, span(monthAt(lastMonth)-1+199*second, monthAt(lastMonth)-1+200*second))
}

func TestSpanOfAListThatHasExpired(t *testing.T) {
	l := putIn()
	l.Expires = second
	checkSpan(t, l, july-1, 2, span(july-1+10*second-2, july-1+11*second+2))
}

func wrongTables() []api.Leaps {
	return []api.Leaps{
		{}, {Expires: second}, {Changes: []api.Change{}}, {Changes: []api.Change{{At: 1}}}, {Changes: []api.Change{{At: -1}}}, {Changes: []api.Change{{At: 86400 * second}}},
		{Changes: []api.Change{{}}, Expires: 1}, {Changes: []api.Change{{}}, Expires: -second}, {Changes: []api.Change{{}}, Expires: 10000000000 * second}, {Changes: []api.Change{{}}, Expires: math.MinInt64},
		tableOf(0, -1), tableOf(0, 201), tableOf(0, 10, 1, 12), tableOf(0, 10, 1, 10), tableOf(0, 10, 1, 8), tableOf(1, 10, 0, 11), tableOf(1, 10, 1, 11), tableOf(0, 10, 1, 11, 2, 13), tableOf(0, math.MaxInt64), tableOf(0, math.MinInt64), tableOf(lastMonth+1, 10),
	}
}

func TestSpanOfWrongTables(t *testing.T) {
	for _, l := range wrongTables() {
		// That the table is wrong is told ahead of what is wrong with the times.
		for _, x := range []api.Time{0, july, 1 << 58, 1<<58 + 1, -1, math.MinInt64, math.MaxInt64} {
			for _, bound := range []api.Time{0, 1, 1 << 40, 1<<40 + 1, -1, math.MinInt64, math.MaxInt64} {
				checkNoSpan(t, l, x, bound, api.ErrShape)
			}
		}
	}
}

func TestSpanOfTimesOutOfRange(t *testing.T) {
	outside := []api.Time{-1, -second, -far, far, far + 1, math.MinInt64, math.MaxInt64}
	for _, l := range []api.Leaps{putIn(), leftOut(), tableOf(0, 0), tableOf(0, 200)} {
		for _, x := range append([]api.Time{1<<58 + 1, 1<<58 + second}, outside...) {
			for _, bound := range append(bounds(), outside...) {
				checkNoSpan(t, l, x, bound, api.ErrRange)
			}
		}
		// A bound that may not be is told ahead of a time that no even one has.
		for _, bound := range append([]api.Time{1<<40 + 1, 1<<40 + second}, outside...) {
			for _, x := range []api.Time{0, 1, july - second, july - 1, july, 1 << 58} {
				checkNoSpan(t, l, x, bound, api.ErrRange)
			}
		}
	}
}

// utcOf is the UTC time of an even one by layer 8's words: first the leap second, then the offset.
func utcOf(l api.Leaps, u api.Time) api.Time {
	offset := l.Changes[0].Offset
	for i, c := range l.Changes[1:] {
		end := c.At + api.Time(c.Offset)*second
		if c.Offset > l.Changes[i].Offset && u >= end-second && u < end {
			return u - api.Time(c.Offset)*second
		}
		if u >= end {
			offset = c.Offset
		}
	}
	return u - api.Time(offset)*second
}

// checkSpanByWords tries all offsets that there may be.
func checkSpanByWords(t *testing.T, l api.Leaps, x, bound api.Time) {
	t.Helper()
	var times []api.Time
	for offset := range api.Time(201) {
		if u := x + offset*second; utcOf(l, u) == x {
			times = append(times, u)
		}
	}
	if len(times) == 0 {
		checkNoSpan(t, l, x, bound, api.ErrNone)
		return
	}
	checkSpan(t, l, x, bound, span(times[0]-bound, times[len(times)-1]+bound))
}

func randomTable(r *rand.Rand) api.Leaps {
	pairs := []int{r.Intn(lastMonth + 1), r.Intn(201)}
	for {
		month := pairs[len(pairs)-2] + 1 + r.Intn(1+r.Intn(400))
		offset := pairs[len(pairs)-1] + 1 - 2*r.Intn(2)
		if month > lastMonth || offset < 0 || offset > 200 {
			return tableOf(pairs...)
		}
		pairs = append(pairs, month, offset)
	}
}

func TestSpanOfRandomTables(t *testing.T) {
	r := rand.New(rand.NewSource(138))
	for range 300 {
		l := randomTable(r)
		for _, c := range l.Changes {
			for _, step := range []api.Time{-86400 * second, -2 * second, -second - 1, -second, -second + 1, -second / 2, -1, 0, 1, second, 86400 * second} {
				if x := c.At + step; x >= 0 {
					checkSpanByWords(t, l, x, api.Time(r.Int63n(1<<40+1)))
				}
			}
		}
		for range 20 {
			checkSpanByWords(t, l, api.Time(r.Int63n(1<<58+1)), api.Time(r.Int63n(1<<r.Intn(41))))
		}
	}
}
