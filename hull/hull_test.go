package hull

import (
	"math"
	"testing"

	"sundial/api"
)

// hullCase is a list, and its hulls with the budgets 0, 1, and so on; a span whose Lo is above its Hi says that no time is held enough.
type hullCase struct {
	list  []api.Span
	hulls []api.Span
}

func checkCase(t *testing.T, r hullCase) {
	t.Helper()
	if len(r.hulls) != len(r.list) {
		fail(t, "the case %v hasn't a hull for each budget", r)
	}
	for f, want := range r.hulls {
		if want.Lo > want.Hi {
			refuseHull(t, r.list, f, api.ErrBudget)
		} else {
			checkHull(t, r.list, f, want)
		}
	}
	for _, f := range []int{len(r.list), len(r.list) + 1, 33, 1 << 32, math.MaxInt64 - 1, math.MaxInt64} {
		refuseHull(t, r.list, f, api.ErrBound)
	}
	for _, f := range []int{-1, -2, -len(r.list), -33, -1 << 32, math.MinInt64 + 1, math.MinInt64} {
		refuseHull(t, r.list, f, api.ErrRange)
	}
}

// none says that no time is held enough.
const none, nothing api.Time = 1, 0

// P15.2
func TestHullsOfFewSpans(t *testing.T) {
	for _, r := range []hullCase{
		{spans(3, 8), spans(3, 8)}, {spans(5, 5), spans(5, 5)}, {spans(-9, -4), spans(-9, -4)}, {spans(0, 0), spans(0, 0)}, {spans(-1, 1), spans(-1, 1)},
		{spans(1, 5, 3, 9), spans(3, 5, 1, 9)},
		// They touch at one time; just not; with one time between; far apart.
		{spans(1, 5, 5, 9), spans(5, 5, 1, 9)}, {spans(1, 4, 5, 9), spans(none, nothing, 1, 9)}, {spans(1, 4, 6, 9), spans(none, nothing, 1, 9)}, {spans(-1<<50, -1<<49, 1<<49, 1<<50), spans(none, nothing, -1<<50, 1<<50)},
		// One in the other, with an end in common and without; alike; of one time.
		{spans(1, 9, 3, 5), spans(3, 5, 1, 9)}, {spans(1, 9, 1, 5), spans(1, 5, 1, 9)}, {spans(1, 9, 5, 9), spans(5, 9, 1, 9)}, {spans(2, 6, 2, 6), spans(2, 6, 2, 6)},
		{spans(1, 9, 4, 4), spans(4, 4, 1, 9)}, {spans(1, 9, 1, 1), spans(1, 1, 1, 9)}, {spans(1, 9, 9, 9), spans(9, 9, 1, 9)}, {spans(1, 9, 10, 10), spans(none, nothing, 1, 10)}, {spans(1, 9, 0, 0), spans(none, nothing, 0, 9)},
		{spans(4, 4, 4, 4), spans(4, 4, 4, 4)}, {spans(4, 4, 5, 5), spans(none, nothing, 4, 5)}, {spans(-4, -4, 4, 4), spans(none, nothing, -4, 4)},
		{spans(-7, -3, -5, -1), spans(-5, -3, -7, -1)}, {spans(-7, -3, -2, -1), spans(none, nothing, -7, -1)},
		// One time alone is held enough by all.
		{spans(0, 5, 5, 9, 3, 7), spans(5, 5, 3, 7, 0, 9)}, {spans(0, 5, 5, 9, 5, 5), spans(5, 5, 5, 5, 0, 9)},
		{spans(0, 10, 5, 15, 100, 101), spans(none, nothing, 5, 10, 0, 101)},
		// Two by two they meet, but not all three at one time.
		{spans(0, 5, 4, 9, 8, 12), spans(none, nothing, 4, 9, 0, 12)},
		{spans(2, 6, 2, 6, 2, 6), spans(2, 6, 2, 6, 2, 6)}, {spans(2, 6, 2, 6, 8, 9), spans(none, nothing, 2, 6, 2, 9)}, {spans(8, 9, 2, 6, 2, 6), spans(none, nothing, 2, 6, 2, 9)},
		{spans(0, 9, 2, 7, 4, 5), spans(4, 5, 2, 7, 0, 9)}, {spans(4, 5, 0, 9, 2, 7), spans(4, 5, 2, 7, 0, 9)},
		// Times with a gap between: those of 1 to 2 and of 8 to 9 are held by two, those between by one.
		{spans(0, 10, 1, 2, 8, 9), spans(none, nothing, 1, 9, 0, 10)}, {spans(1, 2, 8, 9, 0, 10), spans(none, nothing, 1, 9, 0, 10)},
		{spans(1, 1, 9, 9, 1, 1, 9, 9), spans(none, nothing, none, nothing, 1, 9, 1, 9)},
		// The hull's ends are of two spans that have nothing in common, and no span holds what lies between.
		{spans(1, 2, 5, 6), spans(none, nothing, 1, 6)}, {spans(1, 2, 1, 2, 50, 60, 50, 60), spans(none, nothing, none, nothing, 1, 60, 1, 60)},
		{spans(1, 4, 2, 6, 50, 60, 55, 70), spans(none, nothing, none, nothing, 2, 60, 1, 70)},
		// A lone one below and above counts for nothing until the budget is great enough.
		{spans(-100, -90, 0, 5, 3, 8, 90, 100), spans(none, nothing, none, nothing, 3, 5, -100, 100)},
		{spans(0, 5, 3, 8, 4, 9, 90, 100), spans(none, nothing, 4, 5, 3, 8, 0, 100)},
	} {
		checkCase(t, r)
	}
}

func TestHullsAtTheBounds(t *testing.T) {
	for _, r := range []hullCase{
		{spans(-far, far), spans(-far, far)}, {spans(far, far), spans(far, far)}, {spans(-far, -far), spans(-far, -far)}, {spans(1-far, far-1), spans(1-far, far-1)},
		{spans(-far, 4, 3, far), spans(3, 4, -far, far)}, {spans(-far, 3, 3, far), spans(3, 3, -far, far)}, {spans(-far, 2, 3, far), spans(none, nothing, -far, far)},
		{spans(-far, far, 3, 4), spans(3, 4, -far, far)}, {spans(-far, far, -far, far), spans(-far, far, -far, far)}, {spans(-far, 5, -far, 3), spans(-far, 3, -far, 5)}, {spans(1, far, 4, far), spans(4, far, 1, far)},
		{spans(-far, -far, far, far), spans(none, nothing, -far, far)}, {spans(-far, far, far, far), spans(far, far, -far, far)}, {spans(-far, far, -far, -far), spans(-far, -far, -far, far)},
		{spans(far-1, far-1, far, far), spans(none, nothing, far-1, far)}, {spans(-far, -far, 1-far, 1-far), spans(none, nothing, -far, 1-far)},
		{spans(-far, 0, -far, 0, 0, far), spans(0, 0, -far, 0, -far, far)},
		{spans(-far, far, -far, -far, far, far), spans(none, nothing, -far, far, -far, far)},
	} {
		checkCase(t, r)
	}
}

func TestHullsOfManySpans(t *testing.T) {
	for _, n := range []int{1, 2, 3, 31, 32} {
		inside, outside, same := hullCase{list: nested(n)}, hullCase{list: apart(n)}, hullCase{list: make([]api.Span, n)}
		for f := range n {
			inside.hulls = append(inside.hulls, span(-api.Time(f), 10*api.Time(f)))
			outside.hulls = append(outside.hulls, span(none, nothing))
			same.hulls = append(same.hulls, span(0, 0))
		}
		outside.hulls[n-1] = span(0, 10*api.Time(n-1)+3)
		checkCase(t, inside)
		checkCase(t, outside)
		checkCase(t, same)
	}
}

// That a budget is below 0 is told ahead of a list that has too few spans; that the spans are too few, ahead of times that no one holds.
func TestWhichErrorOfHullComesFirst(t *testing.T) {
	for _, n := range []int{0, 1, 2, 3, 31, 32} {
		refuseHull(t, apart(n), -1, api.ErrRange)
		refuseHull(t, apart(n), math.MinInt64, api.ErrRange)
		refuseHull(t, apart(n), n, api.ErrBound)
		refuseHull(t, apart(n), math.MaxInt64, api.ErrBound)
		if n > 1 {
			refuseHull(t, apart(n), 0, api.ErrBudget)
			refuseHull(t, apart(n), n-2, api.ErrBudget)
		}
		if n > 0 {
			checkHull(t, apart(n), n-1, span(0, 10*api.Time(n-1)+3))
		}
	}
}
