package radio

import (
	"math"
	"math/big"
	"math/rand"
	"slices"
	"testing"

	"sundial/api"
)

func checkMiddle(t *testing.T, l []api.Time, middle, spread api.Time) {
	t.Helper()
	if m, s, errno := Middle(l); m != middle || s != spread || errno != api.OK {
		t.Fatalf("Middle(%.300d) = %d, %d, %v; want %d, %d", l, m, s, errno, middle, spread)
	}
}

func checkNoMiddle(t *testing.T, l []api.Time, want api.Errno) {
	t.Helper()
	if m, s, errno := Middle(l); m != 0 || s != 0 || errno != want {
		t.Fatalf("Middle(%.300d) = %d, %d, %v; want %v", l, m, s, errno, want)
	}
}

// P13.4
func TestMiddleOfTheExamples(t *testing.T) {
	checkMiddle(t, []api.Time{5, 1, 9}, 5, 8)
	checkMiddle(t, []api.Time{5, 100, 6, 7}, 6, 95)
	checkNoMiddle(t, nil, api.ErrNone)
	checkNoMiddle(t, []api.Time{}, api.ErrNone)
}

func TestMiddleOfFewReadings(t *testing.T) {
	for _, x := range []api.Time{0, 1, -1, noon, -noon, far, -far, far - 1, 1 - far} {
		checkMiddle(t, []api.Time{x}, x, 0)
		checkMiddle(t, []api.Time{x, x}, x, 0)
		checkMiddle(t, []api.Time{x, x, x}, x, 0)
		checkMiddle(t, []api.Time{x, x, x, x}, x, 0)
		checkMiddle(t, slices.Repeat([]api.Time{x}, 1001), x, 0)
	}
	checkMiddle(t, []api.Time{1, 2}, 1, 1)
	checkMiddle(t, []api.Time{2, 1}, 1, 1)
	checkMiddle(t, []api.Time{1, 3}, 2, 2)
	checkMiddle(t, []api.Time{-1, 0}, -1, 1)
	checkMiddle(t, []api.Time{0, -1}, -1, 1)
	checkMiddle(t, []api.Time{-1, -2}, -2, 1)
	checkMiddle(t, []api.Time{-4, -1}, -3, 3)
	checkMiddle(t, []api.Time{-3, 2}, -1, 5)
	checkMiddle(t, []api.Time{3, -2}, 0, 5)
	checkMiddle(t, []api.Time{-1, 1}, 0, 2)
	checkMiddle(t, []api.Time{1000, -7, 3, -1000}, -2, 2000)
	checkMiddle(t, []api.Time{1, 1, 9}, 1, 8)
	checkMiddle(t, []api.Time{9, 1, 9}, 9, 8)
	checkMiddle(t, []api.Time{4, 4, 9, 9}, 6, 5)
	checkMiddle(t, []api.Time{10, 30, 20, 50, 40}, 30, 40)
	checkMiddle(t, []api.Time{10, 31, 20, 60, 50, 40}, 35, 50)
}

func TestMiddleAtTheBounds(t *testing.T) {
	checkMiddle(t, []api.Time{far, -far}, 0, far)
	checkMiddle(t, []api.Time{-far, far, far}, far, far)
	checkMiddle(t, []api.Time{-far, -far, far}, -far, far)
	checkMiddle(t, []api.Time{far, far - 1}, far-1, 1)
	checkMiddle(t, []api.Time{far, far - 2}, far-1, 2)
	checkMiddle(t, []api.Time{-far, 1 - far}, -far, 1)
	checkMiddle(t, []api.Time{-far, 3 - far}, 1-far, 3)
	checkMiddle(t, []api.Time{far, 0}, far/2, far)
	checkMiddle(t, []api.Time{0, -far}, -far/2, far)
	checkMiddle(t, []api.Time{1, -far}, 0-far/2, far)
	checkMiddle(t, []api.Time{-1, -far}, -far/2-1, far-1)
	checkMiddle(t, []api.Time{far, 1}, far/2, far-1)
	checkMiddle(t, []api.Time{far, -1}, far/2-1, far)
	checkMiddle(t, []api.Time{far - 1, -far}, -1, far)
	checkMiddle(t, []api.Time{far / 2, -far / 2}, 0, far)
	checkMiddle(t, []api.Time{far/2 + 1, -far / 2}, 0, far)
	checkMiddle(t, []api.Time{far/2 - 1, -far / 2}, -1, far-1)
}

func TestMiddleOfNoTimes(t *testing.T) {
	for _, wrong := range []api.Time{far + 1, -far - 1, 1 << 62, -1 << 62, math.MaxInt64, math.MinInt64, math.MinInt64 + 1} {
		checkNoMiddle(t, []api.Time{wrong}, api.ErrRange)
		for count := 2; count < 12; count++ {
			for i := range count {
				l := make([]api.Time, count)
				l[i] = wrong
				checkNoMiddle(t, l, api.ErrRange)
				for j := range l {
					l[j] = wrong
				}
				checkNoMiddle(t, l, api.ErrRange)
			}
		}
		checkNoMiddle(t, []api.Time{wrong, -wrong}, api.ErrRange)
		checkNoMiddle(t, []api.Time{far, wrong, -far}, api.ErrRange)
	}
}

// wantedMiddle leaves out the first and the last as the chapter's words do.
func wantedMiddle(l []api.Time) (api.Time, api.Time) {
	sorted := slices.Sorted(slices.Values(l))
	spread := new(big.Int).Sub(big.NewInt(int64(sorted[len(sorted)-1])), big.NewInt(int64(sorted[0])))
	if spread.Cmp(big.NewInt(int64(far))) > 0 {
		spread = big.NewInt(int64(far))
	}
	for len(sorted) > 2 {
		sorted = sorted[1 : len(sorted)-1]
	}
	if len(sorted) == 1 {
		return sorted[0], api.Time(spread.Int64())
	}
	sum := new(big.Int).Add(big.NewInt(int64(sorted[0])), big.NewInt(int64(sorted[1])))
	// Div rounds down for a divisor above nought.
	return api.Time(sum.Div(sum, big.NewInt(2)).Int64()), api.Time(spread.Int64())
}

func randomReadings(r *rand.Rand) []api.Time {
	l := make([]api.Time, 1+r.Intn(1+r.Intn(40)))
	most := int64(far) >> r.Intn(62)
	for i := range l {
		l[i] = api.Time(r.Int63n(most+1) - r.Int63n(most+1))
	}
	return l
}

func TestMiddleOfRandomReadings(t *testing.T) {
	r := rand.New(rand.NewSource(134))
	for range 100000 {
		l := randomReadings(r)
		middle, spread := wantedMiddle(l)
		checkMiddle(t, l, middle, spread)
	}
	many := make([]api.Time, 100001)
	for i := range many {
		many[i] = api.Time(i)*3 - 7
	}
	r.Shuffle(len(many), func(i, j int) { many[i], many[j] = many[j], many[i] })
	checkMiddle(t, many, 150000-7, 300000)
}

// P13.6: the middle lies among the readings.
func TestMiddleLiesAmongTheReadings(t *testing.T) {
	r := rand.New(rand.NewSource(135))
	for range 100000 {
		l := randomReadings(r)
		m, spread, errno := Middle(l)
		least, most := slices.Min(l), slices.Max(l)
		if errno != api.OK || m < least || m > most || spread < 0 || spread != min(most-least, far) {
			t.Fatalf("Middle(%d) = %d, %d, %v", l, m, spread, errno)
		}
	}
}

// everyOrder hands on the readings from the one with the number n on in all orders, behind those ahead.
func everyOrder(l []api.Time, n int, with func(l []api.Time)) {
	if n == len(l) {
		with(l)
	}
	for i := n; i < len(l); i++ {
		l[n], l[i] = l[i], l[n]
		everyOrder(l, n+1, with)
		l[n], l[i] = l[i], l[n]
	}
}

// P13.6: it doesn't hang on their order.
func TestMiddleInEveryOrder(t *testing.T) {
	r := rand.New(rand.NewSource(136))
	for range 100 {
		l := randomReadings(r)
		l = l[:min(len(l), 6)]
		middle, spread := wantedMiddle(l)
		everyOrder(slices.Clone(l), 0, func(l []api.Time) { checkMiddle(t, l, middle, spread) })
	}
	for range 10000 {
		l := randomReadings(r)
		middle, spread := wantedMiddle(l)
		r.Shuffle(len(l), func(i, j int) { l[i], l[j] = l[j], l[i] })
		checkMiddle(t, l, middle, spread)
	}
}

// P13.6: fewer than half of the readings may say what they like.
func TestMiddleAmongLiars(t *testing.T) {
	r := rand.New(rand.NewSource(137))
	for range 200000 {
		l := make([]api.Time, 1+r.Intn(12))
		truth := api.Time(r.Int63n(1<<60)-r.Int63n(1<<60)) >> r.Intn(60)
		e := api.Time(r.Int63n(1 << r.Intn(50)))
		liars := r.Intn((len(l) + 1) / 2)
		for i := range l {
			switch {
			case i >= liars:
				l[i] = truth - e + api.Time(r.Int63n(int64(2*e+1)))
			case r.Intn(2) == 0:
				l[i] = truth + e + 1 + api.Time(r.Int63n(1<<60)>>r.Intn(60))
			default:
				l[i] = truth - e - 1 - api.Time(r.Int63n(1<<60)>>r.Intn(60))
			}
		}
		r.Shuffle(len(l), func(i, j int) { l[i], l[j] = l[j], l[i] })
		within := e
		if len(l)%2 == 0 {
			within = e + 1
		}
		m, _, errno := Middle(l)
		if errno != api.OK || m < truth-within || m > truth+within {
			t.Fatalf("Middle(%d) = %d, %v; %d liars around %d, e %d", l, m, errno, liars, truth, e)
		}
	}
}
