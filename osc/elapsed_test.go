package osc

import (
	"math"
	"math/big"
	"math/rand"
	"testing"

	"sundial/api"
)

// counts are differences of counts at the chapter's edges.
var counts = []api.Time{
	0, 1, 2, 3, 999, 1000, 1001, 1002, 1000000, 1001000, 1001001, 999001, 1 << 20, 1 << 31, 1<<39 + 7,
	longest - 1, longest, longest + 1, 1 << 60, far - 1, far, far + 1, most - 1, most,
}

var rhos = []int{0, 1, 2, 100, 499, 500, 999, 1000}

var wrongRhos = []int{-1, 1001, -1000, 2000, 1000000, -1000000, math.MaxInt, math.MinInt}

var wrongCounts = []api.Time{-1, -2, -1000, -longest, -far, -far - 1, least + 1, least}

var someSpans = []api.Span{
	{Lo: 0, Hi: 0}, {Lo: 10, Hi: 20}, {Lo: -3, Hi: 7}, {Lo: -9, Hi: -4}, {Lo: -far, Hi: far}, {Lo: -far, Hi: 20}, {Lo: 5, Hi: far},
	{Lo: far, Hi: far}, {Lo: -far, Hi: -far}, {Lo: far - 1, Hi: far - 1}, {Lo: -far + 1, Hi: -far + 1}, {Lo: -far + 1, Hi: far - 1},
	{Lo: far - 1<<40, Hi: far - 1}, {Lo: far - 1<<41, Hi: far - 1<<41}, {Lo: far - 1<<30, Hi: far},
}

var noSpans = []api.Span{
	{Lo: 2, Hi: 1}, {Lo: far, Hi: -far}, {Lo: 0, Hi: far + 1}, {Lo: -far - 1, Hi: 0}, {Lo: far + 1, Hi: far + 1}, {Lo: least, Hi: most}, {Lo: most, Hi: least},
}

func quotient(d api.Time, den int, up bool) *big.Int {
	n := new(big.Int).Mul(big.NewInt(int64(d)), big.NewInt(1000000))
	if up {
		n.Add(n, big.NewInt(int64(den-1)))
	}
	// Div rounds down here, as den is above nought.
	return n.Div(n, big.NewInt(int64(den)))
}

// exactElapsed is the chapter's LOW and HIGH in exact numbers.
func exactElapsed(d api.Time, rho int) (low, high api.Time) {
	if d > 1<<40 {
		return 0, far
	}
	low = api.Time(quotient(d-1, 1000000+rho, false).Int64())
	high = api.Time(quotient(d+1, 1000000-rho, true).Int64())
	if low < 0 {
		low = 0
	}
	return low, high
}

func checkElapsed(t *testing.T, d api.Time, rho int) {
	t.Helper()
	wantLow, wantHigh := exactElapsed(d, rho)
	if low, high, e := Elapsed(d, rho); low != wantLow || high != wantHigh || e != api.OK {
		t.Errorf("Elapsed(%d, %d) = %d, %d, %v; want %d, %d", d, rho, low, high, e, wantLow, wantHigh)
	}
}

// P2.2
func TestElapsedExamples(t *testing.T) {
	for _, r := range []struct {
		d         api.Time
		rho       int
		low, high api.Time
	}{
		{0, 0, 0, 1}, {1, 0, 0, 2}, {2, 0, 1, 3}, {1000000, 0, 999999, 1000001}, {1000000, 100, 999899, 1000102},
		{0, 1000, 0, 2}, {1, 1000, 0, 3}, {2, 1000, 0, 4}, {3, 1000, 1, 5}, {1002, 1000, 1000, 1005}, {998, 1000, 996, 1000}, {999, 1000, 997, 1002},
		{longest, 0, longest - 1, longest + 1}, {longest, 1, 1099510528264, 1099512727290}, {longest, 1000, 1098413214560, 1100612240018},
		{longest + 1, 0, 0, far}, {longest + 1, 5, 0, far}, {longest + 1, 1000, 0, far}, {far, 0, 0, far}, {far + 1, 0, 0, far}, {most, 1000, 0, far},
	} {
		if low, high, e := Elapsed(r.d, r.rho); low != r.low || high != r.high || e != api.OK {
			t.Errorf("Elapsed(%d, %d) = %d, %d, %v; want %d, %d", r.d, r.rho, low, high, e, r.low, r.high)
		}
	}
}

func TestElapsedIsExact(t *testing.T) {
	for _, rho := range rhos {
		for _, d := range counts {
			checkElapsed(t, d, rho)
		}
		for d := range api.Time(3000) {
			checkElapsed(t, d, rho)
		}
	}
	r := rand.New(rand.NewSource(3))
	for range 20000 {
		checkElapsed(t, api.Time(r.Int63n(int64(longest)+1))>>r.Intn(41), r.Intn(1001))
	}
}

func TestElapsedRefuses(t *testing.T) {
	refused := func(d api.Time, rho int) {
		t.Helper()
		if low, high, e := Elapsed(d, rho); low != 0 || high != 0 || e != api.ErrRange {
			t.Errorf("Elapsed(%d, %d) = %d, %d, %v", d, rho, low, high, e)
		}
	}
	for _, rho := range append(wrongRhos, rhos...) {
		for _, d := range wrongCounts {
			refused(d, rho)
		}
	}
	// A wrong rho is refused beyond MaxElapsed, too.
	for _, rho := range wrongRhos {
		for _, d := range counts {
			refused(d, rho)
		}
	}
}

// P2.3
func TestAgeExamples(t *testing.T) {
	for _, r := range []struct {
		lo, hi api.Time
		d      api.Time
		rho    int
		want   api.Span
	}{
		{10, 20, 1000000, 100, api.Span{Lo: 999909, Hi: 1000122}}, {10, 20, 0, 0, api.Span{Lo: 10, Hi: 21}}, {-5, -5, 3, 1000, api.Span{Lo: -4, Hi: 0}},
		{-far, 20, 0, 0, api.Span{Lo: -far, Hi: 21}}, {-far, 20, 1000000, 100, api.Span{Lo: -far, Hi: 1000122}},
		{10, far, 0, 0, api.Span{Lo: 10, Hi: far}}, {10, far, 1000000, 100, api.Span{Lo: 999909, Hi: far}}, {-far, far, 1000000, 100, api.Span{Lo: -far, Hi: far}},
		{far - 1, far - 1, 1, 0, api.Span{Lo: far - 1, Hi: far}}, {far - 1, far - 1, 2, 0, api.Span{Lo: far, Hi: far}}, {far - 1, far - 1, 3, 0, api.Span{Lo: far, Hi: far}},
		{far - 2, far - 2, 0, 0, api.Span{Lo: far - 2, Hi: far - 1}}, {far, far, 1000, 0, api.Span{Lo: far, Hi: far}},
		{-far, -far, 1000, 0, api.Span{Lo: -far, Hi: -far + 1001}}, {-far + 1, -far + 1, 1000, 0, api.Span{Lo: -far + 1000, Hi: -far + 1002}},
		{10, 20, longest, 0, api.Span{Lo: longest + 9, Hi: longest + 21}},
		{10, 20, longest + 1, 0, api.Span{Lo: 10, Hi: far}}, {0, 0, longest + 1, 0, api.Span{Lo: 0, Hi: far}}, {-far, far, most, 0, api.Span{Lo: -far, Hi: far}},
		// By the plain words HIGH is added there, too, and it is Far.
		{-9, -4, longest + 1, 0, api.Span{Lo: -9, Hi: far - 4}}, {-far, -far, most, 1000, api.Span{Lo: -far, Hi: 0}},
	} {
		s := api.Span{Lo: r.lo, Hi: r.hi}
		if got, e := Age(s, r.d, r.rho); got != r.want || e != api.OK {
			t.Errorf("Age(%v, %d, %d) = %v, %v; want %v", s, r.d, r.rho, got, e, r.want)
		}
	}
}

func exactAge(s api.Span, d api.Time, rho int) api.Span {
	low, high := exactElapsed(d, rho)
	lo, hi := s.Lo, s.Hi
	if lo != -far {
		lo = min(lo+low, far)
	}
	if hi != far {
		hi = min(hi+high, far)
	}
	return api.Span{Lo: lo, Hi: hi}
}

func TestAgeIsExact(t *testing.T) {
	for _, s := range someSpans {
		for _, d := range counts {
			for _, rho := range rhos {
				if got, e := Age(s, d, rho); got != exactAge(s, d, rho) || e != api.OK {
					t.Errorf("Age(%v, %d, %d) = %v, %v; want %v", s, d, rho, got, e, exactAge(s, d, rho))
				}
			}
		}
	}
}

func TestAgeRefusesWhatElapsedRefuses(t *testing.T) {
	refused := func(s api.Span, d api.Time, rho int) {
		t.Helper()
		if got, e := Age(s, d, rho); got != (api.Span{}) || e != api.ErrRange {
			t.Errorf("Age(%v, %d, %d) = %v, %v", s, d, rho, got, e)
		}
	}
	for _, s := range someSpans {
		for _, d := range wrongCounts {
			refused(s, d, 0)
			refused(s, d, 1001)
		}
		for _, rho := range wrongRhos {
			refused(s, 0, rho)
			refused(s, longest+1, rho)
		}
	}
}

// The span's shape is named ahead of the error of Elapsed.
func TestAgeRefusesWhatIsNoSpan(t *testing.T) {
	for _, s := range noSpans {
		for _, d := range []api.Time{0, 1, longest, longest + 1, -1, most, least} {
			for _, rho := range []int{0, 1000, -1, 1001, math.MaxInt, math.MinInt} {
				if got, e := Age(s, d, rho); got != (api.Span{}) || e != api.ErrShape {
					t.Errorf("Age(%v, %d, %d) = %v, %v", s, d, rho, got, e)
				}
			}
		}
	}
}
