package vote

import (
	"slices"
	"testing"

	"sundial/api"
)

type agreement struct {
	list []api.Candidate
	want api.Span
	who  []int
}

// P16.2
func TestIntersectOfFew(t *testing.T) {
	for _, r := range []agreement{
		{cands(7, 3), span(4, 10), upTo(1)}, {cands(7, 0), span(7, 7), upTo(1)}, {cands(-7, 3), span(-10, -4), upTo(1)}, {cands(0, 0), span(0, 0), upTo(1)}, {cands(-1, 2), span(-3, 1), upTo(1)},
		// Middles at both ends, at one, and within; alike; one in the other; Dist 0.
		{cands(0, 2, 2, 2), span(0, 2), upTo(2)}, {cands(2, 2, 0, 2), span(0, 2), upTo(2)}, {cands(1, 2, 3, 2), span(1, 3), upTo(2)}, {cands(0, 5, 1, 5), span(-4, 5), upTo(2)},
		{cands(5, 4, 5, 4), span(1, 9), upTo(2)}, {cands(0, 10, 1, 2), span(-1, 3), upTo(2)}, {cands(0, 10, 2, 2), span(0, 4), upTo(2)}, {cands(0, 10, -2, 2), span(-4, 0), upTo(2)},
		{cands(3, 0, 3, 0), span(3, 3), upTo(2)}, {cands(3, 0, 3, 9), span(3, 3), upTo(2)}, {cands(-4, 0, -4, 0, -4, 0), span(-4, -4), upTo(3)},
		// Nobody need be allowed for, though a greater allow would make more of it.
		{cands(0, 10, 0, 5, 0, 2), span(-2, 2), upTo(3)}, {cands(0, 2, 1, 3, 2, 2, 1, 9), span(0, 2), upTo(4)},
	} {
		checkIntersect(t, r.list, r.want, r.who...)
	}
}

// Some must be allowed for: because they lie apart, or because their middles do.
func TestIntersectAllowsForSome(t *testing.T) {
	for _, r := range []agreement{
		{cands(0, 10, 1, 10, 100, 1), span(-9, 10), []int{0, 1}}, {cands(100, 1, 0, 10, 1, 10), span(-9, 10), []int{1, 2}}, {cands(0, 10, -100, 1, 1, 10), span(-9, 10), []int{0, 2}},
		// All three meet, but one's middle isn't where: so two are enough, and all are truechimers.
		{cands(0, 10, 5, 2, 6, 3), span(3, 9), upTo(3)},
		{cands(0, 10, 1, 10, 12, 2), span(-9, 11), upTo(3)},
		// The third one's span ends just where the others' intersection begins, or just ahead.
		{cands(0, 2, 0, 2, -4, 2), span(-2, 2), upTo(3)}, {cands(0, 2, 0, 2, -5, 2), span(-2, 2), upTo(2)}, {cands(0, 2, 0, 2, 4, 2), span(-2, 2), upTo(3)}, {cands(0, 2, 0, 2, 5, 2), span(-2, 2), upTo(2)},
		{cands(-4, 2, 0, 2, 0, 2), span(-2, 2), upTo(3)}, {cands(5, 2, 0, 2, 0, 2), span(-2, 2), []int{1, 2}},
		{cands(0, 0, 0, 0, 1, 0), span(0, 0), upTo(2)}, {cands(0, 0, 0, 0, 1, 1), span(0, 0), upTo(3)}, {cands(0, 0, 9, 0, 0, 0), span(0, 0), []int{0, 2}},
		{cands(2, 10, 5, 10, 3, 2, -100, 1), span(1, 5), upTo(3)},
		// Two of five lie, each for itself, together, or on both sides.
		{cands(0, 5, 1, 5, 2, 5, 50, 1, 90, 1), span(-3, 5), upTo(3)}, {cands(50, 1, 0, 5, 50, 1, 1, 5, 2, 5), span(-3, 5), []int{1, 3, 4}}, {cands(-50, 1, 0, 5, 1, 5, 2, 5, 50, 1), span(-3, 5), []int{1, 2, 3}},
		// Two groups with the wide one in common: the intersection goes from the one to the other.
		{cands(0, 1, 0, 1, 50, 60, 100, 1, 100, 1), span(-1, 101), upTo(5)},
		{cands(0, 1, 0, 1, 50, 50, 101, 1, 101, 1), span(0, 100), upTo(5)},
	} {
		checkIntersect(t, r.list, r.want, r.who...)
	}
}

// P16.2: no time is held by enough, or too many of the middles are outside of what is.
func TestNoIntersection(t *testing.T) {
	for _, list := range [][]api.Candidate{
		cands(0, 10, 100, 10), cands(0, 1, 3, 1), cands(0, 0, 1, 0), cands(-5, 2, 5, 2), cands(0, 1, 10, 1, 20, 1), cands(0, 0, 1, 0, 2, 0),
		// Just half of them agree.
		cands(0, 5, 0, 5, 100, 5, 100, 5), cands(0, 5, 0, 5, 50, 1, 90, 1), cands(0, 5, 0, 5, 0, 5, 50, 1, 60, 1, 70, 1),
		// They meet, at one time or at more, but the middles are outside: two, one, one.
		cands(0, 1, 2, 1), cands(0, 2, 4, 2), cands(0, 2, 3, 2), cands(0, 10, 5, 2), cands(0, 10, -5, 2), cands(0, 3, 3, 2), cands(1, 2, 4, 3), cands(2, 2, -1, 3),
		// One more is outside than is allowed for.
		cands(0, 10, 20, 11, 100, 1), cands(0, 10, 20, 10, 100, 1),
	} {
		refuseIntersect(t, list, api.ErrNone)
	}
}

// A middle at LOW or HIGH isn't outside; one beside them is, and of two candidates none is allowed for.
func TestMiddlesAtTheEnds(t *testing.T) {
	for _, far := range []api.Time{0, 1000, -1000, -most + 20, most - 20} {
		for _, r := range []struct {
			middle api.Time
			within bool
		}{{0, false}, {1, true}, {2, true}, {3, true}, {4, false}} {
			// The first one's span is 1 to 3, the second one's holds it.
			list := cands(far+2, 1, far+r.middle, 9)
			mirror := cands(-far-r.middle, 9, -far-2, 1)
			if r.within {
				checkIntersect(t, list, span(far+1, far+3), 0, 1)
				checkIntersect(t, mirror, span(-far-3, -far-1), 0, 1)
			} else {
				refuseIntersect(t, list, api.ErrNone)
				refuseIntersect(t, mirror, api.ErrNone)
			}
		}
	}
}

func TestIntersectAtTheBounds(t *testing.T) {
	for _, r := range []agreement{
		{cands(most, most), span(0, 2*most), upTo(1)}, {cands(-most, most), span(-2*most, 0), upTo(1)}, {cands(most, 0), span(most, most), upTo(1)}, {cands(-most, 0), span(-most, -most), upTo(1)},
		{cands(0, most), span(-most, most), upTo(1)},
		{cands(-most, most, most, most, 0, most), span(-most, most), upTo(3)},
		{cands(most, most, most, most), span(0, 2*most), upTo(2)}, {cands(-most, 0, 0, most), span(0, 0), nil}, {cands(-most, most, most, most), span(0, 0), nil}, {cands(-most, most, most, most, 0, 0), span(0, 0), nil},
		{cands(most, 0, most, 0, -most, 0), span(most, most), upTo(2)}, {cands(most, 0, most, 0, -most, most), span(most, most), upTo(2)}, {cands(most, 0, most, 1, 0, most), span(most-1, most), upTo(3)},
		{cands(most-1, 0, most, 0, -most, 0), span(0, 0), nil},
	} {
		if r.who == nil {
			refuseIntersect(t, r.list, api.ErrNone)
		} else {
			checkIntersect(t, r.list, r.want, r.who...)
		}
	}
}

// P16.5: more than half must agree, of many, too, wherever those that lie stand.
func TestIntersectOfMany(t *testing.T) {
	for _, n := range []int{1, 2, 3, 4, 5, 31, 32} {
		for liars := range n + 1 {
			honest := slices.Repeat(cands(-7, 5), n-liars)
			first := slices.Concat(honest, apart(liars))
			last := slices.Concat(apart(liars), honest)
			if 2*liars < n {
				checkIntersect(t, first, span(-12, -2), upTo(n-liars)...)
				checkIntersect(t, last, span(-12, -2), upTo(n)[liars:]...)
			} else if n > 1 {
				refuseIntersect(t, first, api.ErrNone)
				refuseIntersect(t, last, api.ErrNone)
			}
		}
		checkIntersect(t, make([]api.Candidate, n), span(0, 0), upTo(n)...)
	}
}

// Of n candidates some have their middles in nought, and off of them have 0 to 10: all hold nought, but off middles, or the others, must be allowed for.
func TestMiddlesOfMany(t *testing.T) {
	for _, n := range []int{3, 4, 5, 31, 32} {
		for off := range n {
			list := slices.Concat(cands(slices.Repeat([]api.Time{5}, 2*off)...), make([]api.Candidate, n-off))
			switch {
			case 2*off < n:
				checkIntersect(t, list, span(0, 0), upTo(n)...)
			case 2*off > n:
				checkIntersect(t, list, span(0, 10), upTo(n)...)
			default:
				refuseIntersect(t, list, api.ErrNone)
			}
		}
	}
}
