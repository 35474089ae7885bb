package fix

import (
	"math/rand"
	"testing"

	"sundial/api"
)

// noSpans are values that are no spans, each for another reason.
var noSpans = []api.Span{
	{Lo: 2, Hi: 1}, {Lo: 0, Hi: -1}, {Lo: far, Hi: -far}, {Lo: far, Hi: far - 1},
	{Lo: 0, Hi: far + 1}, {Lo: -far - 1, Hi: 0}, {Lo: -far - 1, Hi: far + 1},
	{Lo: far + 1, Hi: far + 1}, {Lo: -far - 1, Hi: -far - 1}, {Lo: low, Hi: most}, {Lo: 0, Hi: most}, {Lo: low, Hi: 0}, {Lo: most, Hi: low},
}

var someSpans = []api.Span{
	{Lo: 0, Hi: 0}, {Lo: 1, Hi: 5}, {Lo: 5, Hi: 9}, {Lo: -3, Hi: 7}, {Lo: -far, Hi: far}, {Lo: -far, Hi: 3}, {Lo: 1, Hi: far},
	{Lo: far, Hi: far}, {Lo: -far, Hi: -far}, {Lo: far - 1, Hi: far}, {Lo: -far, Hi: -far + 1}, {Lo: -far + 1, Hi: far - 1},
}

// P1.5
func TestCheck(t *testing.T) {
	for _, s := range someSpans {
		if e := Check(s); e != api.OK {
			t.Errorf("Check(%v) = %v", s, e)
		}
	}
	for _, s := range noSpans {
		if e := Check(s); e != api.ErrShape {
			t.Errorf("Check(%v) = %v", s, e)
		}
	}
}

func TestMeet(t *testing.T) {
	for _, r := range []struct {
		a, b, want api.Span
		e          api.Errno
	}{
		{span(1, 5), span(5, 9), span(5, 5), api.OK}, {span(1, 4), span(5, 9), span(0, 0), api.ErrNone},
		{span(1, 9), span(3, 5), span(3, 5), api.OK}, {span(1, 6), span(4, 9), span(4, 6), api.OK},
		{span(2, 2), span(2, 2), span(2, 2), api.OK}, {span(2, 2), span(3, 3), span(0, 0), api.ErrNone},
		{span(-far, far), span(-7, 8), span(-7, 8), api.OK}, {span(-far, far), span(-far, far), span(-far, far), api.OK},
		{span(-far, 3), span(3, far), span(3, 3), api.OK}, {span(-far, 2), span(3, far), span(0, 0), api.ErrNone},
		{span(-far, 3), span(-far, 9), span(-far, 3), api.OK}, {span(1, far), span(4, far), span(4, far), api.OK},
		{span(-far, -far), span(far, far), span(0, 0), api.ErrNone}, {span(-far, far), span(far, far), span(far, far), api.OK},
	} {
		if got, e := Meet(r.a, r.b); got != r.want || e != r.e {
			t.Errorf("Meet(%v, %v) = %v, %v; want %v, %v", r.a, r.b, got, e, r.want, r.e)
		}
		if got, e := Meet(r.b, r.a); got != r.want || e != r.e {
			t.Errorf("Meet(%v, %v) = %v, %v; want %v, %v", r.b, r.a, got, e, r.want, r.e)
		}
	}
}

func TestCover(t *testing.T) {
	for _, r := range []struct{ a, b, want api.Span }{
		{span(1, 4), span(5, 9), span(1, 9)}, {span(1, 5), span(5, 9), span(1, 9)}, {span(1, 9), span(3, 5), span(1, 9)},
		{span(1, 6), span(4, 9), span(1, 9)}, {span(2, 2), span(2, 2), span(2, 2)}, {span(-4, -2), span(7, 8), span(-4, 8)},
		{span(-far, 3), span(1, 2), span(-far, 3)}, {span(1, far), span(-1, 2), span(-1, far)},
		{span(-far, 3), span(9, far), span(-far, far)}, {span(-far, -far), span(far, far), span(-far, far)},
	} {
		if got, e := Cover(r.a, r.b); got != r.want || e != api.OK {
			t.Errorf("Cover(%v, %v) = %v, %v; want %v", r.a, r.b, got, e, r.want)
		}
		if got, e := Cover(r.b, r.a); got != r.want || e != api.OK {
			t.Errorf("Cover(%v, %v) = %v, %v; want %v", r.b, r.a, got, e, r.want)
		}
	}
}

func TestMeetAndCoverHoldWhatTheyMust(t *testing.T) {
	r := rand.New(rand.NewSource(5))
	small := func() api.Span {
		lo := api.Time(r.Intn(12) - 6)
		return span(lo, lo+api.Time(r.Intn(6)))
	}
	in := func(x api.Time, s api.Span) bool { return s.Lo <= x && x <= s.Hi }
	for range 3000 {
		a, b := small(), small()
		both, e := Meet(a, b)
		all, _ := Cover(a, b)
		for x := api.Time(-8); x < 14; x++ {
			if held := e == api.OK && in(x, both); held != (in(x, a) && in(x, b)) {
				t.Fatalf("Meet(%v, %v) = %v, %v: wrong at %d", a, b, both, e, x)
			}
			if (in(x, a) || in(x, b)) && !in(x, all) {
				t.Fatalf("Cover(%v, %v) = %v: wrong at %d", a, b, all, x)
			}
		}
		if all.Lo != min(a.Lo, b.Lo) || all.Hi != max(a.Hi, b.Hi) {
			t.Fatalf("Cover(%v, %v) = %v: not the least", a, b, all)
		}
	}
}

func TestMeetAndCoverRefuseWhatIsNoSpan(t *testing.T) {
	for _, bad := range noSpans {
		for _, s := range append(append([]api.Span{}, someSpans...), noSpans...) {
			for _, pair := range [][2]api.Span{{bad, s}, {s, bad}} {
				if got, e := Meet(pair[0], pair[1]); got != (api.Span{}) || e != api.ErrShape {
					t.Errorf("Meet(%v, %v) = %v, %v", pair[0], pair[1], got, e)
				}
				if got, e := Cover(pair[0], pair[1]); got != (api.Span{}) || e != api.ErrShape {
					t.Errorf("Cover(%v, %v) = %v, %v", pair[0], pair[1], got, e)
				}
			}
		}
	}
}

func TestShift(t *testing.T) {
	for _, r := range []struct {
		s    api.Span
		d    api.Time
		want api.Span
	}{
		{span(1, 5), 0, span(1, 5)}, {span(1, 5), 3, span(4, 8)}, {span(1, 5), -3, span(-2, 2)}, {span(2, 2), 1, span(3, 3)},
		{span(-far, 3), 4, span(-far, 7)}, {span(-far, 3), -4, span(-far, -1)}, {span(1, far), -4, span(-3, far)}, {span(1, far), 4, span(5, far)},
		{span(-far, far), far, span(-far, far)}, {span(-far, far), -far, span(-far, far)}, {span(-far, far), 1, span(-far, far)},
		{span(1, 5), far, span(far, far)}, {span(-5, -1), far, span(far-5, far-1)}, {span(-5, 5), far, span(far-5, far)},
		{span(-5, -1), -far, span(-far, -far)}, {span(1, 5), -far, span(-far+1, -far+5)}, {span(-5, 5), -far, span(-far, -far+5)},
		{span(far-1, far-1), 1, span(far, far)}, {span(far-1, far-1), 2, span(far, far)}, {span(-far+1, -far+1), -2, span(-far, -far)},
		{span(far, far), -4, span(far-4, far)}, {span(far, far), 4, span(far, far)}, {span(-far, -far), 4, span(-far, -far+4)}, {span(-far, -far), -4, span(-far, -far)},
		{span(-far, 3), far, span(-far, far)}, {span(-far, 3), -far, span(-far, -far+3)}, {span(1, far), far, span(far, far)},
	} {
		if got, e := Shift(r.s, r.d); got != r.want || e != api.OK {
			t.Errorf("Shift(%v, %d) = %v, %v; want %v", r.s, r.d, got, e, r.want)
		}
	}
}

func TestShiftRefuses(t *testing.T) {
	for _, d := range strange {
		for _, s := range someSpans {
			if got, e := Shift(s, d); got != (api.Span{}) || e != api.ErrRange {
				t.Errorf("Shift(%v, %d) = %v, %v", s, d, got, e)
			}
		}
	}
	// A span's shape is named ahead of the range of d.
	for _, s := range noSpans {
		for _, d := range append([]api.Time{0, 1, -1, far, -far}, strange...) {
			if got, e := Shift(s, d); got != (api.Span{}) || e != api.ErrShape {
				t.Errorf("Shift(%v, %d) = %v, %v", s, d, got, e)
			}
		}
	}
}
