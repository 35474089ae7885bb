package hull

import (
	"math/rand"
	"slices"
	"testing"

	"sundial/api"
)

func isIn(x api.Time, s api.Span) bool { return s.Lo <= x && x <= s.Hi }

// heldBy is how many of the spans hold x.
func heldBy(list []api.Span, x api.Time) int {
	return len(slices.DeleteFunc(slices.Clone(list), func(s api.Span) bool { return !isIn(x, s) }))
}

// turns are times of which one lies wherever the spans that hold a time become others, whichever end of a span that is.
func turns(list []api.Span) []api.Time {
	times := []api.Time{-far, far}
	for _, s := range list {
		times = append(times, max(s.Lo-1, -far), s.Lo, min(s.Lo+1, far), max(s.Hi-1, -far), s.Hi, min(s.Hi+1, far))
	}
	slices.Sort(times)
	return times
}

// hullAmong is the chapter's words, asked of each of some rising times.
func hullAmong(times []api.Time, list []api.Span, f int) (api.Span, api.Errno) {
	if f < 0 {
		return api.Span{}, api.ErrRange
	}
	if len(list) <= f {
		return api.Span{}, api.ErrBound
	}
	var held []api.Time
	for _, x := range times {
		if heldBy(list, x) >= len(list)-f {
			held = append(held, x)
		}
	}
	if held == nil {
		return api.Span{}, api.ErrBudget
	}
	return span(held[0], held[len(held)-1]), api.OK
}

// checkAmong holds the hulls of a list with all budgets against the chapter's words.
func checkAmong(t *testing.T, times []api.Time, list []api.Span) {
	t.Helper()
	for f := -1; f <= len(list)+1; f++ {
		want, errno := hullAmong(times, list, f)
		if got, e := Hull(list, f); got != want || e != errno {
			fail(t, "Hull(%v, %v) = %v, %v; want %v, %v", list, f, got, e, want, errno)
		}
	}
}

// checkLaws holds a list's answers against what P15.4 says of them.
func checkLaws(t *testing.T, r *rand.Rand, list []api.Span) {
	t.Helper()
	last, found := api.Span{}, false
	for f := range list {
		h, errno := Hull(list, f)
		if errno != api.OK {
			if errno != api.ErrBudget || found {
				fail(t, "Hull(%v, %v) = %v", list, f, errno)
			}
			continue
		}
		if found && (h.Lo > last.Lo || h.Hi < last.Hi) {
			fail(t, "Hull(%v, %v) = %v, less than %v with a budget less by one", list, f, h, last)
		}
		last, found = h, true
		checkEnds(t, list, f, h)
		checkOneMore(t, r, list, f, h)
	}
	if len(list) > 0 && !found {
		fail(t, "of %v there is no hull, whatever the budget", list)
	}
}

// checkEnds holds a hull's ends against who holds them, and times that all but f hold against the hull.
func checkEnds(t *testing.T, list []api.Span, f int, h api.Span) {
	t.Helper()
	for _, end := range []api.Time{h.Lo, h.Hi} {
		if n, errno := Held(list, end); n < len(list)-f || errno != api.OK {
			fail(t, "of the hull %v of %v with %v the end %v is held by %v, %v", h, list, f, end, n, errno)
		}
	}
	for _, x := range turns(list) {
		if n, errno := Held(list, x); errno != api.OK || len(list)-n <= f && !isIn(x, h) {
			fail(t, "the hull %v of %v with %v doesn't hold %v", h, list, f, x)
		}
	}
}

// checkOneMore lays the hull itself, or a wider span, into a list at any place: the hull stays.
func checkOneMore(t *testing.T, r *rand.Rand, list []api.Span, f int, h api.Span) {
	t.Helper()
	if len(list) == api.MaxSources {
		return
	}
	for _, wide := range spans(h.Lo, h.Hi, max(h.Lo-1, -far), h.Hi, h.Lo, min(h.Hi+7, far), -far, far) {
		more := slices.Insert(slices.Clone(list), r.Intn(len(list)+1), wide)
		checkHull(t, more, f, h)
	}
}

// The order of the spans makes no difference to the hull, nor to how many hold a time.
func checkOrders(t *testing.T, r *rand.Rand, list []api.Span) {
	t.Helper()
	other := slices.Clone(list)
	for range 3 {
		r.Shuffle(len(other), func(i, j int) { other[i], other[j] = other[j], other[i] })
		for f := -1; f <= len(list); f++ {
			one, errno := Hull(list, f)
			if two, e := Hull(other, f); two != one || e != errno {
				fail(t, "Hull(%v, %v) = %v, %v; in another order %v, %v", list, f, one, errno, two, e)
			}
		}
		for _, s := range list {
			checkHeld(t, other, s.Lo, heldBy(list, s.Lo))
			checkHeld(t, other, s.Hi, heldBy(list, s.Hi))
		}
	}
}

// Every list of up to four spans of a few times, against each time from below them to above them.
func TestEveryShortList(t *testing.T) {
	var few []api.Span
	for lo := range api.Time(4) {
		for hi := lo; hi < 4; hi++ {
			few = append(few, span(lo, hi))
		}
	}
	times := []api.Time{-1, 0, 1, 2, 3, 4}
	r := rand.New(rand.NewSource(15))
	var grow func(list []api.Span)
	grow = func(list []api.Span) {
		checkAmong(t, times, list)
		checkLaws(t, r, list)
		for _, x := range times {
			checkHeld(t, list, x, heldBy(list, x))
		}
		if len(list) == 4 {
			return
		}
		for _, s := range few {
			grow(append(slices.Clone(list), s))
		}
	}
	grow(nil)
}

// someTime is of any size, often at a bound.
func someTime(r *rand.Rand) api.Time {
	switch r.Intn(12) {
	case 0:
		return far - api.Time(r.Intn(3))
	case 1:
		return api.Time(r.Intn(3)) - far
	}
	return api.Time(r.Int63n(1<<62)-1<<61) >> r.Intn(61)
}

// someList is of spans that are all about one time, of a few times, or of any times.
func someList(r *rand.Rand) []api.Span {
	list := make([]api.Span, r.Intn(api.MaxSources+1))
	kind, middle, room := r.Intn(3), someTime(r)/2, api.Time(1)<<r.Intn(58)
	for i := range list {
		var a, b api.Time
		switch kind {
		case 0:
			a, b = middle-api.Time(r.Int63n(int64(room))), middle+api.Time(r.Int63n(int64(room)))
			if r.Intn(4) == 0 {
				a, b = b, b+room
			}
		case 1:
			a, b = api.Time(r.Intn(9)), api.Time(r.Intn(9))
		default:
			a, b = someTime(r), someTime(r)
		}
		list[i] = span(min(a, b), max(a, b))
	}
	return list
}

// P15.1 to P15.4
func TestRandomLists(t *testing.T) {
	for seed := range int64(3000) {
		r := rand.New(rand.NewSource(seed))
		list := someList(r)
		checkAmong(t, turns(list), list)
		checkLaws(t, r, list)
		checkOrders(t, r, list)
		for _, x := range turns(list) {
			checkHeld(t, list, x, heldBy(list, x))
		}
		for range 10 {
			a, b := someTime(r), someTime(r)
			if len(list) > 0 && r.Intn(2) == 0 {
				a = list[r.Intn(len(list))].Hi
			}
			s := span(min(a, b), max(a, b))
			var want []int
			for i, one := range list {
				if !isIn(one.Lo, s) && !isIn(s.Lo, one) {
					want = append(want, i)
				}
			}
			checkLiars(t, list, s, want...)
		}
	}
}

// P15.4, as it is leant on: however f spans lie, the hull holds the time that all others hold.
func TestHullHoldsWhatHonestSpansHold(t *testing.T) {
	r := rand.New(rand.NewSource(154))
	for range 20000 {
		n := 1 + r.Intn(api.MaxSources)
		f, truth := r.Intn(n), someTime(r)
		list := make([]api.Span, n)
		for i := range list {
			a, b := someTime(r), someTime(r)
			list[i] = span(min(a, b), max(a, b))
			if i >= f {
				list[i] = span(min(a, truth), max(b, truth))
			}
		}
		r.Shuffle(n, func(i, j int) { list[i], list[j] = list[j], list[i] })
		h, errno := Hull(list, f)
		if errno != api.OK || !isIn(truth, h) {
			fail(t, "Hull(%v, %v) = %v, %v; it must hold %v", list, f, h, errno, truth)
		}
		liars, errno := Liars(list, h)
		if errno != api.OK || len(liars) > f {
			fail(t, "Liars(%v, %v) = %v, %v; at most %v lie", list, h, liars, errno, f)
		}
		for _, i := range liars {
			if isIn(truth, list[i]) {
				fail(t, "Liars(%v, %v) = %v, but %v holds %v", list, h, liars, list[i], truth)
			}
		}
	}
}

func FuzzHull(f *testing.F) {
	f.Add(int64(0), int64(10), int64(5), int64(15), int64(100), int64(101), int64(7), 1)
	f.Add(int64(-1<<61), int64(4), int64(3), int64(1<<61), int64(2), int64(1), int64(1<<61+1), -1)
	f.Fuzz(func(t *testing.T, a, b, c, d, e, g, x int64, budget int) {
		list := spans(api.Time(a), api.Time(b), api.Time(c), api.Time(d), api.Time(e), api.Time(g))
		if slices.ContainsFunc(list, func(s api.Span) bool { return s.Lo < -far || s.Hi > far || s.Lo > s.Hi }) {
			refuseHeld(t, list, api.Time(x), api.ErrShape)
			refuseHull(t, list, budget, api.ErrShape)
			refuseLiars(t, list, span(0, 0), api.ErrShape)
			return
		}
		want, errno := hullAmong(turns(list), list, budget)
		if got, e := Hull(list, budget); got != want || e != errno {
			fail(t, "Hull(%v, %v) = %v, %v; want %v, %v", list, budget, got, e, want, errno)
		}
		if at := api.Time(x); at < -far || at > far {
			refuseHeld(t, list, at, api.ErrRange)
		} else {
			checkHeld(t, list, at, heldBy(list, at))
		}
	})
}
