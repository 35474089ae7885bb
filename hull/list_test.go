package hull

import (
	"fmt"
	"math"
	"slices"
	"testing"

	"sundial/api"
)

const far = api.Far

func span(lo, hi api.Time) api.Span { return api.Span{Lo: lo, Hi: hi} }

// spans takes the ends of spans in their order.
func spans(ends ...api.Time) []api.Span {
	var list []api.Span
	for i := 0; i+1 < len(ends); i += 2 {
		list = append(list, span(ends[i], ends[i+1]))
	}
	return list
}

// nested is so many spans that lie in one another, the widest last.
func nested(n int) []api.Span {
	var list []api.Span
	for i := range api.Time(n) {
		list = append(list, span(-i, 10*i))
	}
	return list
}

// apart is so many spans that have nothing in common: 0 to 3, 10 to 13, and so on.
func apart(n int) []api.Span {
	var list []api.Span
	for i := range api.Time(n) {
		list = append(list, span(10*i, 10*i+3))
	}
	return list
}

// noSpans are values that are no spans, each for another reason.
func noSpans() []api.Span {
	return spans(
		2, 1, 0, -1, -4, -5, far, -far, far, far-1, -far+1, -far, 1<<60, -1<<60,
		0, far+1, -far-1, 0, -far-1, far+1, far+1, far+1, -far-1, -far-1, -far, far+1, -far-1, far,
		math.MinInt64, math.MaxInt64, 0, math.MaxInt64, math.MinInt64, 0, math.MaxInt64, math.MinInt64, math.MinInt64, math.MinInt64, math.MaxInt64, math.MaxInt64,
	)
}

// wrongLists have a value that is no span at the beginning, in the middle or at the end, or too many spans.
func wrongLists() [][]api.Span {
	var lists [][]api.Span
	for _, bad := range noSpans() {
		for _, n := range []int{1, 2, 3, 31, 32, 33} {
			for _, place := range []int{0, n / 2, n - 1} {
				list := nested(n)
				list[place] = bad
				lists = append(lists, list)
			}
		}
	}
	lists = append(lists, slices.Repeat(noSpans()[:1], 3), noSpans())
	for _, n := range []int{33, 34, 64, 65, 100, 5000} {
		lists = append(lists, nested(n), apart(n), make([]api.Span, n), slices.Repeat(spans(-far, far), n))
	}
	return lists
}

// budgets are what may be asked with, and what may not, for lists of any length.
func budgets() []int {
	return []int{math.MinInt64, math.MinInt64 + 1, -1 << 32, -33, -2, -1, 0, 1, 2, 3, 30, 31, 32, 33, 34, 1 << 31, 1 << 32, math.MaxInt64 - 1, math.MaxInt64}
}

// strangeTimes are no times.
func strangeTimes() []api.Time {
	return []api.Time{far + 1, -far - 1, far + 2, 1 << 62, -1 << 62, math.MaxInt64, math.MinInt64, math.MinInt64 + 1}
}

// fail tells what is wrong, each thing of it cut where it gets long.
func fail(t *testing.T, form string, things ...any) {
	t.Helper()
	for i, thing := range things {
		things[i] = fmt.Sprintf("%.900s", fmt.Sprint(thing))
	}
	t.Fatalf(form, things...)
}

func checkHeld(t *testing.T, list []api.Span, at api.Time, want int) {
	t.Helper()
	if n, errno := Held(list, at); n != want || errno != api.OK {
		fail(t, "Held(%v, %v) = %v, %v; want %v", list, at, n, errno, want)
	}
}

func checkHull(t *testing.T, list []api.Span, f int, want api.Span) {
	t.Helper()
	if s, errno := Hull(list, f); s != want || errno != api.OK {
		fail(t, "Hull(%v, %v) = %v, %v; want %v", list, f, s, errno, want)
	}
}

func checkLiars(t *testing.T, list []api.Span, s api.Span, want ...int) {
	t.Helper()
	if liars, errno := Liars(list, s); !slices.Equal(liars, want) || errno != api.OK {
		fail(t, "Liars(%v, %v) = %v, %v; want %v", list, s, liars, errno, want)
	}
}

func refuseHeld(t *testing.T, list []api.Span, at api.Time, want api.Errno) {
	t.Helper()
	if n, errno := Held(list, at); n != 0 || errno != want {
		fail(t, "Held(%v, %v) = %v, %v; want %v", list, at, n, errno, want)
	}
}

func refuseHull(t *testing.T, list []api.Span, f int, want api.Errno) {
	t.Helper()
	if s, errno := Hull(list, f); s != (api.Span{}) || errno != want {
		fail(t, "Hull(%v, %v) = %v, %v; want %v", list, f, s, errno, want)
	}
}

func refuseLiars(t *testing.T, list []api.Span, s api.Span, want api.Errno) {
	t.Helper()
	if liars, errno := Liars(list, s); len(liars) != 0 || errno != want {
		fail(t, "Liars(%v, %v) = %v, %v; want %v", list, s, liars, errno, want)
	}
}

// The chapter's examples.
func TestExamples(t *testing.T) {
	first := spans(0, 10, 5, 15, 100, 101)
	refuseHull(t, first, 0, api.ErrBudget)
	checkHull(t, first, 1, span(5, 10))
	checkHull(t, first, 2, span(0, 101))
	refuseHull(t, first, 3, api.ErrBound)
	checkHull(t, spans(1, 2, 5, 6), 1, span(1, 6))
	checkHull(t, spans(-far, 4, 3, far), 0, span(3, 4))
	checkHeld(t, first, 7, 2)
	checkHeld(t, first, 100, 1)
	checkHeld(t, first, 50, 0)
	checkLiars(t, first, span(5, 10), 2)
}

// P15.1: of a wrong list each tells ErrShape, whatever else it is handed.
func TestWrongLists(t *testing.T) {
	times := append(strangeTimes(), 0, 1, -1, 5, far, -far)
	others := append(noSpans(), span(0, 0), span(-far, far), span(3, 5))
	for _, list := range wrongLists() {
		for _, at := range times {
			refuseHeld(t, list, at, api.ErrShape)
		}
		for _, f := range append(budgets(), len(list)-1, len(list), len(list)+1) {
			refuseHull(t, list, f, api.ErrShape)
		}
		for _, s := range others {
			refuseLiars(t, list, s, api.ErrShape)
		}
	}
}

// Each value that is no span is one as soon as it is mended, at every place of a list.
func TestMendedLists(t *testing.T) {
	for _, n := range []int{1, 2, 3, 31, 32} {
		for place := range n {
			list := slices.Repeat(spans(0, 9), n)
			list[place] = span(5, 4)
			refuseHeld(t, list, 4, api.ErrShape)
			refuseHull(t, list, 0, api.ErrShape)
			refuseLiars(t, list, span(4, 4), api.ErrShape)
			list[place] = span(4, 4)
			checkHeld(t, list, 4, n)
			checkHull(t, list, 0, span(4, 4))
			checkLiars(t, list, span(4, 4))
			list[place] = span(-far, far)
			checkHeld(t, list, 4, n)
			list[place] = span(-far, far+1)
			refuseHeld(t, list, 4, api.ErrShape)
		}
	}
}

// A nil list and an empty one mean the same, with room behind it or without.
func TestNoSpans(t *testing.T) {
	for _, list := range [][]api.Span{nil, {}, make([]api.Span, 0, 40), nested(33)[:0], noSpans()[:0]} {
		for _, at := range []api.Time{0, 1, -1, far, -far, far - 1, -far + 1} {
			checkHeld(t, list, at, 0)
		}
		for _, at := range strangeTimes() {
			refuseHeld(t, list, at, api.ErrRange)
		}
		for _, f := range budgets() {
			if f < 0 {
				refuseHull(t, list, f, api.ErrRange)
			} else {
				refuseHull(t, list, f, api.ErrBound)
			}
		}
		for _, s := range spans(0, 0, -far, far, 3, 8, far, far, -far, -far) {
			checkLiars(t, list, s)
		}
		for _, s := range noSpans() {
			refuseLiars(t, list, s, api.ErrShape)
		}
	}
}

// What stands in a list's spare room is none of it.
func TestWrongSpansBehindAList(t *testing.T) {
	list := append(nested(3), noSpans()...)[:3]
	checkHeld(t, list, 0, 3)
	checkHull(t, list, 0, span(0, 0))
	checkLiars(t, list, span(1, 1), 0)
}
