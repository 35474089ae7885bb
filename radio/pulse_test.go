package radio

import (
	"math"
	"math/rand"
	"testing"

	"sundial/api"
)

const (
	second = api.Second
	far    = api.Far
)

func span(lo, hi api.Time) api.Span { return api.Span{Lo: lo, Hi: hi} }

func checkPulse(t *testing.T, s api.Span, want api.Time, wantErrno api.Errno) {
	t.Helper()
	if x, errno := Pulse(s); x != want || errno != wantErrno {
		t.Fatalf("Pulse(%v) = %d, %v; want %d, %v", s, x, errno, want, wantErrno)
	}
}

// P13.3
func TestPulseOfTheExamples(t *testing.T) {
	checkPulse(t, span(1048575, 1048577), 1048576, api.OK)
	checkPulse(t, span(1048577, 1048578), 0, api.ErrNone)
	checkPulse(t, span(0, 1048576), 0, api.ErrNone)
}

func TestPulseOfNoSpans(t *testing.T) {
	for _, s := range []api.Span{
		span(1, 0), span(0, -1), span(1048577, 1048575), span(second, 0), span(far, -far), span(far, far-1),
		span(far+1, far+1), span(0, far+1), span(-far-1, 0), span(-far-1, -far-1), span(-far-1, far+1), span(far+second, far+second), span(-far-second, -far-second),
		span(math.MinInt64, 0), span(0, math.MaxInt64), span(math.MinInt64, math.MaxInt64), span(math.MaxInt64, math.MinInt64), span(math.MinInt64, math.MinInt64), span(math.MaxInt64, math.MaxInt64),
	} {
		checkPulse(t, s, 0, api.ErrShape)
	}
}

// Around each whole second: spans that begin and end with it, that hold it, that lie beside it, and that hold another one, too.
func TestPulseAroundSeconds(t *testing.T) {
	for _, x := range []api.Time{0, second, -second, 2 * second, -2 * second, 4003771800 * second, -4003771800 * second, 1<<58 + second, -1<<58 + second, far - second, -far + second} {
		checkPulse(t, span(x, x), x, api.OK)
		checkPulse(t, span(x, x+1), x, api.OK)
		checkPulse(t, span(x-1, x), x, api.OK)
		checkPulse(t, span(x-1, x+1), x, api.OK)
		checkPulse(t, span(x, x+second-1), x, api.OK)
		checkPulse(t, span(x-second+1, x), x, api.OK)
		checkPulse(t, span(x-second+1, x+second-1), x, api.OK)
		checkPulse(t, span(x-second/2, x+second/2), x, api.OK)
		checkPulse(t, span(x+1, x+1), 0, api.ErrNone)
		checkPulse(t, span(x-1, x-1), 0, api.ErrNone)
		checkPulse(t, span(x+1, x+second-1), 0, api.ErrNone)
		checkPulse(t, span(x-second+1, x-1), 0, api.ErrNone)
		checkPulse(t, span(x, x+second), 0, api.ErrNone)
		checkPulse(t, span(x-second, x), 0, api.ErrNone)
		checkPulse(t, span(x-1, x+second), 0, api.ErrNone)
		checkPulse(t, span(x-second, x+second), 0, api.ErrNone)
		checkPulse(t, span(x-second, x+1), 0, api.ErrNone)
	}
}

func TestPulseAtTheBounds(t *testing.T) {
	checkPulse(t, span(far, far), far, api.OK)
	checkPulse(t, span(far-second+1, far), far, api.OK)
	checkPulse(t, span(far-second, far), 0, api.ErrNone)
	checkPulse(t, span(far-second, far-1), far-second, api.OK)
	checkPulse(t, span(far-1, far-1), 0, api.ErrNone)
	checkPulse(t, span(-far, -far), -far, api.OK)
	checkPulse(t, span(-far, -far+second-1), -far, api.OK)
	checkPulse(t, span(-far, -far+second), 0, api.ErrNone)
	checkPulse(t, span(-far+1, -far+second), -far+second, api.OK)
	checkPulse(t, span(-far+1, -far+1), 0, api.ErrNone)
	checkPulse(t, span(-far, far), 0, api.ErrNone)
	checkPulse(t, span(0, far), 0, api.ErrNone)
	checkPulse(t, span(-far, 0), 0, api.ErrNone)
}

func TestPulseOfRandomSpans(t *testing.T) {
	r := rand.New(rand.NewSource(133))
	for range 200000 {
		lo := api.Time(r.Int63n(1<<60)) >> r.Intn(60)
		if r.Intn(2) == 0 {
			lo = -lo
		}
		s := span(lo, lo+api.Time(r.Int63n(int64(3*second)>>r.Intn(20))))
		// Of all whole seconds near by, those in the span.
		found, count := api.Time(0), 0
		for x := lo/second - 2; x <= lo/second+6; x++ {
			if s.Lo <= x*second && x*second <= s.Hi {
				found = x * second
				count++
			}
		}
		if count == 1 {
			checkPulse(t, s, found, api.OK)
		} else {
			checkPulse(t, s, 0, api.ErrNone)
		}
	}
}
