package leap

import (
	"math"
	"math/rand"
	"slices"
	"testing"

	"sundial/api"
)

func checkUTC(t *testing.T, l api.Leaps, u, want api.Time, wantIn bool) {
	t.Helper()
	if x, in, errno := UTC(l, u); x != want || in != wantIn || errno != api.OK {
		t.Errorf("UTC of %d = %d, %t, %v; want %d, %t", u, x, in, errno, want, wantIn)
	}
}

func checkEven(t *testing.T, l api.Leaps, x api.Time, want ...api.Time) {
	t.Helper()
	if times, errno := Even(l, x); !slices.Equal(times, want) || errno != api.OK {
		t.Errorf("Even of %d = %d, %v; want %d", x, times, errno, want)
	}
}

// P8.4
func TestUTCOfTheExamples(t *testing.T) {
	l := exampleTable()
	checkUTC(t, l, a+seconds(9), a-seconds(1), false)
	checkUTC(t, l, a+seconds(10), a-seconds(1), true)
	checkUTC(t, l, a+seconds(10)+api.Second/2, a-api.Second/2, true)
	checkUTC(t, l, a+seconds(11), a, false)
}

func TestEvenOfTheExamples(t *testing.T) {
	l := exampleTable()
	checkEven(t, l, a-seconds(1), a+seconds(9), a+seconds(10))
	checkEven(t, l, a-api.Second/2, a+seconds(9)+api.Second/2, a+seconds(10)+api.Second/2)
	checkEven(t, l, a, a+seconds(11))
}

func TestUTCAtALeapSecondsTicks(t *testing.T) {
	l := exampleTable()
	checkUTC(t, l, a+seconds(10)-1, a-1, false)
	checkUTC(t, l, a+seconds(10), a-seconds(1), true)
	checkUTC(t, l, a+seconds(10)+1, a-seconds(1)+1, true)
	checkUTC(t, l, a+seconds(11)-1, a-1, true)
	checkUTC(t, l, a+seconds(11), a, false)
	checkUTC(t, l, a+seconds(11)+1, a+1, false)
	checkEven(t, l, a-seconds(1)-1, a+seconds(9)-1)
	checkEven(t, l, a-seconds(1), a+seconds(9), a+seconds(10))
	checkEven(t, l, a-seconds(1)+1, a+seconds(9)+1, a+seconds(10)+1)
	checkEven(t, l, a-1, a+seconds(10)-1, a+seconds(11)-1)
	checkEven(t, l, a, a+seconds(11))
	checkEven(t, l, a+1, a+seconds(11)+1)
}

func TestTimesWhereASecondIsTakenAway(t *testing.T) {
	l := exampleTable()
	l.Changes[1].Offset = 9
	checkUTC(t, l, a+seconds(8), a-seconds(2), false)
	checkUTC(t, l, a+seconds(9)-1, a-seconds(1)-1, false)
	checkUTC(t, l, a+seconds(9), a, false)
	checkUTC(t, l, a+seconds(9)+1, a+1, false)
	checkUTC(t, l, a+seconds(10), a+seconds(1), false)
	checkEven(t, l, a-seconds(1)-1, a+seconds(9)-1)
	checkEven(t, l, a-seconds(1))
	checkEven(t, l, a-seconds(1)+1)
	checkEven(t, l, a-api.Second/2)
	checkEven(t, l, a-1)
	checkEven(t, l, a, a+seconds(9))
	checkEven(t, l, a+1, a+seconds(9)+1)
}

// The first change tells an offset alone: that is the one ahead of it, too.
func TestTimesAtTheFirstChange(t *testing.T) {
	for _, l := range []api.Leaps{tableOf(july1972, 11), tableOf(july1972, 11, lastMonth, 10), exampleTable()} {
		at, offset := l.Changes[0].At, l.Changes[0].Offset
		for _, x := range []api.Time{0, 1, seconds(1), at - seconds(2), at - seconds(1), at - 1, at, at + 1, at + seconds(1)} {
			checkUTC(t, l, x+seconds(offset), x, false)
			checkEven(t, l, x, x+seconds(offset))
		}
	}
}

func TestTimesOfAFlatTable(t *testing.T) {
	l := tableOf(0, 0)
	for _, u := range []api.Time{0, 1, api.Second, a, 1<<58 - 1, 1 << 58} {
		checkUTC(t, l, u, u, false)
		checkEven(t, l, u, u)
	}
}

func TestTimesOfTheTrueTable(t *testing.T) {
	l := trueTable()
	// 2016-12-31 had a second 60; in 2017 the offset is 37.
	at := seconds(3692217600)
	checkUTC(t, l, at+seconds(36)-1, at-1, false)
	checkUTC(t, l, at+seconds(36), at-seconds(1), true)
	checkUTC(t, l, at+seconds(37)-1, at-1, true)
	checkUTC(t, l, at+seconds(37), at, false)
	checkUTC(t, l, seconds(4000000037)+5, seconds(4000000000)+5, false)
	// In 2000 it was 32.
	checkUTC(t, l, seconds(3155673632), seconds(3155673600), false)
	checkEven(t, l, seconds(3155673600), seconds(3155673632))
	checkEven(t, l, at-seconds(1), at+seconds(35), at+seconds(36))
	checkEven(t, l, 0, seconds(10))
	count := 0
	for _, c := range l.Changes[1:] {
		_, in, _ := UTC(l, c.At+seconds(c.Offset)-1)
		if in {
			count++
		}
	}
	if count != 27 {
		t.Errorf("%d leap seconds", count)
	}
}

func TestTimesAtTheirBounds(t *testing.T) {
	const last api.Time = 1 << 58
	for _, offset := range []int{0, 1, 10, 200} {
		l := tableOf(0, offset)
		// A UTC time may be below 0, and an even time above 2^58.
		checkUTC(t, l, 0, seconds(-offset), false)
		checkUTC(t, l, 1, seconds(-offset)+1, false)
		checkUTC(t, l, last, last-seconds(offset), false)
		checkUTC(t, l, last-1, last-1-seconds(offset), false)
		checkEven(t, l, 0, seconds(offset))
		checkEven(t, l, 1, seconds(offset)+1)
		checkEven(t, l, last, last+seconds(offset))
		checkEven(t, l, last-1, last-1+seconds(offset))
	}
	for _, l := range rightTables() {
		for _, x := range []api.Time{-1, -2, -api.Second, last + 1, last + 2, last + api.Second, api.Far, -api.Far, math.MinInt64, math.MaxInt64} {
			if u, in, errno := UTC(l, x); u != 0 || in || errno != api.ErrRange {
				t.Errorf("UTC of %d = %d, %t, %v; want ErrRange", x, u, in, errno)
			}
			if times, errno := Even(l, x); len(times) != 0 || errno != api.ErrRange {
				t.Errorf("Even of %d = %d, %v; want ErrRange", x, times, errno)
			}
		}
	}
}

// The first second that may be added, and the first that may be taken away, at February 1900.
func TestTimesAtTheFirstMonths(t *testing.T) {
	at := monthAt(1)
	adding := tableOf(0, 0, 1, 1)
	checkUTC(t, adding, at-1, at-1, false)
	checkUTC(t, adding, at, at-seconds(1), true)
	checkUTC(t, adding, at+seconds(1), at, false)
	checkEven(t, adding, at-seconds(1), at-seconds(1), at)
	taking := tableOf(0, 1, 1, 0)
	checkUTC(t, taking, at-1, at-seconds(1)-1, false)
	checkUTC(t, taking, at, at, false)
	checkEven(t, taking, at-seconds(1))
	checkEven(t, taking, at, at)
}

// One second is added, the next month one is taken away, and the other way round.
func TestTimesOfSecondsAddedAndTaken(t *testing.T) {
	l := tableOf(january1972, 10, july1972, 11, july1972+1, 10)
	b := monthAt(july1972 + 1)
	checkUTC(t, l, a+seconds(10), a-seconds(1), true)
	checkUTC(t, l, a+seconds(11), a, false)
	checkUTC(t, l, b+seconds(10)-1, b-seconds(1)-1, false)
	checkUTC(t, l, b+seconds(10), b, false)
	checkEven(t, l, b-1)
	checkEven(t, l, a-1, a+seconds(10)-1, a+seconds(11)-1)
	l = tableOf(january1972, 10, july1972, 9, july1972+1, 10)
	checkUTC(t, l, a+seconds(9)-1, a-seconds(1)-1, false)
	checkUTC(t, l, a+seconds(9), a, false)
	checkUTC(t, l, b+seconds(9)-1, b-1, false)
	checkUTC(t, l, b+seconds(9), b-seconds(1), true)
	checkUTC(t, l, b+seconds(10)-1, b-1, true)
	checkUTC(t, l, b+seconds(10), b, false)
}

func checkTimesByWords(t *testing.T, l api.Leaps, u api.Time) {
	t.Helper()
	want, wantIn := wantedUTC(l, u)
	checkUTC(t, l, u, want, wantIn)
	checkEven(t, l, u, wantedEven(l, u)...)
}

func TestTimesOfAllTables(t *testing.T) {
	for _, l := range rightTables() {
		for _, u := range edgeTimes(l) {
			checkTimesByWords(t, l, u)
		}
	}
}

// As many changes as there may be, each of them.
func TestTimesOfAFullTable(t *testing.T) {
	l := fullTable()
	for i, c := range l.Changes[1:] {
		if ahead := l.Changes[i].Offset; c.Offset > ahead {
			checkUTC(t, l, c.At+seconds(ahead), c.At-seconds(1), true)
			checkEven(t, l, c.At-1, c.At+seconds(ahead)-1, c.At+seconds(ahead+1)-1)
		} else {
			checkUTC(t, l, c.At+seconds(ahead-1)-1, c.At-seconds(1)-1, false)
			checkEven(t, l, c.At-1)
		}
		checkUTC(t, l, c.At+seconds(c.Offset), c.At, false)
		checkEven(t, l, c.At, c.At+seconds(c.Offset))
	}
}

// randomTable has up to most changes, in months at random.
func randomTable(r *rand.Rand, most int) api.Leaps {
	months := r.Perm(lastMonth + 1)[:1+r.Intn(most)]
	slices.Sort(months)
	offset := []int{0, 1, 10, 37, 100, 199, 200}[r.Intn(7)]
	l := api.Leaps{Expires: seconds(r.Intn(10000000000))}
	for i, n := range months {
		if i > 0 {
			step := 1 - 2*r.Intn(2)
			if offset+step < 0 || offset+step > 200 {
				step = -step
			}
			offset += step
		}
		l.Changes = append(l.Changes, api.Change{At: monthAt(n), Offset: offset})
	}
	return l
}

func TestTimesOfRandomTables(t *testing.T) {
	r := rand.New(rand.NewSource(84))
	for range 200 {
		l := randomTable(r, 12)
		checkAccepted(t, l)
		for _, u := range edgeTimes(l) {
			checkTimesByWords(t, l, u)
		}
		for range 100 {
			checkTimesByWords(t, l, api.Time(r.Int63n(1<<58+1)))
		}
	}
}

// P8.7
func TestEvenOfAUTCTimeHoldsIt(t *testing.T) {
	r := rand.New(rand.NewSource(87))
	for _, l := range append(rightTables(), randomTable(r, 30), randomTable(r, 300)) {
		for _, u := range edgeTimes(l) {
			x, in, errno := UTC(l, u)
			if errno != api.OK || x < 0 {
				continue
			}
			times, errno := Even(l, x)
			if !slices.Contains(times, u) || errno != api.OK {
				t.Errorf("UTC of %d is %d, Even of that %d, %v", u, x, times, errno)
			}
			if in && (len(times) != 2 || times[1] != u || times[0] != u-api.Second) {
				t.Errorf("%d is in a leap second, but Even answers %d", u, times)
			}
			if !slices.IsSorted(times) || len(slices.Compact(times)) != len(times) {
				t.Errorf("Even of %d = %d doesn't rise", x, times)
			}
		}
	}
}

// UTC times rise but where a leap second begins: there they go back by one second.
func TestUTCTimesRise(t *testing.T) {
	for _, l := range rightTables() {
		for _, u := range edgeTimes(l) {
			if u == 0 {
				continue
			}
			ahead, wasIn, _ := UTC(l, u-1)
			x, in, _ := UTC(l, u)
			switch step := x - ahead; {
			case in && !wasIn:
				if step != 1-api.Second {
					t.Errorf("at %d, where a leap second begins, UTC goes on by %d", u, step)
				}
			case step != 1 && step != 1+api.Second:
				t.Errorf("at %d UTC goes on by %d", u, step)
			case step != 1 && (in || wasIn || len(wantedEven(l, x-1)) > 0):
				t.Errorf("at %d UTC goes on by %d, where no second is taken away", u, step)
			}
		}
	}
}

// Each tick of four seconds around a leap second, and around one that is taken away.
func TestEveryTickAroundAChange(t *testing.T) {
	for _, offset := range []int{9, 11} {
		l := exampleTable()
		l.Changes[1].Offset = offset
		begin := a + seconds(min(10, offset))
		for u := begin - seconds(2); u < begin+seconds(2); u++ {
			want, wantIn := u-seconds(10), false
			if u >= begin {
				want = u - seconds(offset)
				wantIn = offset == 11 && u < begin+seconds(1)
			}
			if x, in, errno := UTC(l, u); x != want || in != wantIn || errno != api.OK {
				t.Fatalf("UTC of %d = %d, %t, %v; want %d, %t", u, x, in, errno, want, wantIn)
			}
		}
	}
}
