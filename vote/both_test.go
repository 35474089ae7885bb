package vote

import (
	"math/big"
	"math/rand"
	"slices"
	"testing"

	"sundial/api"
)

// turns are times of which one lies wherever the spans that hold a time become others, whichever end of a span that is.
func turns(list []api.Candidate) []api.Time {
	var times []api.Time
	for _, c := range list {
		for _, end := range []api.Time{c.Offset - c.Dist, c.Offset + c.Dist} {
			times = append(times, end-1, end, end+1)
		}
	}
	slices.Sort(times)
	return times
}

func isHeld(x api.Time, c api.Candidate) bool {
	return max(x-c.Offset, c.Offset-x) <= c.Dist
}

// heldBy is how many of the candidates' spans hold x.
func heldBy(list []api.Candidate, x api.Time) int {
	return len(slices.DeleteFunc(slices.Clone(list), func(c api.Candidate) bool { return !isHeld(x, c) }))
}

// intersectionAmong asks the chapter's words of each of some rising times; the last answer is the least allow that does.
func intersectionAmong(times []api.Time, list []api.Candidate) (api.Span, []int, int) {
	for allow := 0; 2*allow < len(list); allow++ {
		held := slices.DeleteFunc(slices.Clone(times), func(x api.Time) bool { return heldBy(list, x) < len(list)-allow })
		if len(held) == 0 {
			continue
		}
		low, high, off := held[0], held[len(held)-1], 0
		var who []int
		for i, c := range list {
			if c.Offset != min(max(c.Offset, low), high) {
				off++
			}
			if isHeld(min(max(c.Offset, low), high), c) {
				who = append(who, i)
			}
		}
		if off <= allow {
			return span(low, high), who, allow
		}
	}
	return api.Span{}, nil, -1
}

func checkIntersectAmong(t *testing.T, times []api.Time, list []api.Candidate) {
	t.Helper()
	if s, who, allow := intersectionAmong(times, list); allow < 0 {
		refuseIntersect(t, list, api.ErrNone)
	} else {
		checkIntersect(t, list, s, who...)
	}
}

// clusterOf is the chapter's words, with sums of whole numbers of any size.
func clusterOf(list []api.Candidate, some []int) []int {
	var left []int
	for _, i := range some {
		at := 0
		for at < len(left) && isBetter(list, left[at], i) {
			at++
		}
		left = slices.Insert(left, at, i)
	}
	for len(left) > 3 {
		var selects, jitters []int64
		for _, i := range left {
			selects = append(selects, selectOf(list, left, i))
			jitters = append(jitters, int64(list[i].Jitter))
		}
		greatest := slices.Max(selects)
		if greatest <= slices.Min(jitters) {
			break
		}
		q := len(selects) - 1
		for selects[q] != greatest {
			q--
		}
		left = slices.Concat(left[:q], left[q+1:])
	}
	return left
}

func isBetter(list []api.Candidate, i, j int) bool {
	strata := api.Time(list[i].Stratum - list[j].Stratum)
	far := list[j].Dist - list[i].Dist
	return strata*1572864 < far || strata*1572864 == far && i < j
}

func selectOf(list []api.Candidate, left []int, i int) int64 {
	sum := new(big.Int)
	for _, j := range left {
		sum.Add(sum, new(big.Int).Abs(big.NewInt(int64(list[i].Offset-list[j].Offset))))
	}
	return sum.Div(sum, big.NewInt(int64(len(left)-1))).Int64()
}

func checkClusterAmong(t *testing.T, list []api.Candidate, some []int) {
	t.Helper()
	checkCluster(t, list, some, clusterOf(list, some)...)
}

// roundDown rounds a fraction of any size.
func roundDown(x *big.Rat) api.Time {
	return api.Time(new(big.Int).Div(x.Num(), x.Denom()).Int64())
}

// combineOf is the chapter's words, with exact fractions, the mean of each one's share.
func combineOf(list []api.Candidate, some []int) (api.Time, api.Time) {
	all := new(big.Rat)
	for _, i := range some {
		all.Add(all, weightOf(list[i]))
	}
	offset, jitter := new(big.Rat), new(big.Rat)
	for _, i := range some {
		share := new(big.Rat).Quo(weightOf(list[i]), all)
		far := new(big.Rat).SetInt64(int64(list[some[0]].Offset - list[i].Offset))
		jitter.Sub(jitter, far.Abs(far).Mul(far, share))
		offset.Add(offset, share.Mul(share, new(big.Rat).SetInt64(int64(list[i].Offset))))
	}
	return roundDown(offset), -roundDown(jitter)
}

func weightOf(c api.Candidate) *big.Rat {
	return big.NewRat(max(1, 1048576/(1+int64(c.Dist)/1024)), 1)
}

func checkCombineAmong(t *testing.T, list []api.Candidate, some []int) {
	t.Helper()
	offset, jitter := combineOf(list, some)
	checkCombine(t, list, some, offset, jitter)
}

// P16.5
func checkLaws(t *testing.T, list []api.Candidate) {
	t.Helper()
	s, who, errno := Intersect(list)
	if errno != api.OK {
		if errno != api.ErrNone {
			fail(t, "Intersect(%v) = %v", list, errno)
		}
		return
	}
	allow := 0
	for 2*allow < len(list) && (heldBy(list, s.Lo) < len(list)-allow || heldBy(list, s.Hi) < len(list)-allow || middlesOff(list, s) > allow) {
		allow++
	}
	for _, x := range turns(list) {
		if heldBy(list, x) >= len(list)-allow && (x < s.Lo || x > s.Hi) {
			fail(t, "the intersection %v of %v doesn't hold %v, with allow %v", s, list, x, allow)
		}
	}
	if 2*allow >= len(list) || 2*len(who) <= len(list) {
		fail(t, "Intersect(%v) = %v, %v: too few, with allow %v", list, s, who, allow)
	}
	checkSurvivors(t, list, who)
}

func middlesOff(list []api.Candidate, s api.Span) int {
	count := 0
	for _, c := range list {
		if c.Offset < s.Lo || s.Hi < c.Offset {
			count++
		}
	}
	return count
}

// checkSurvivors holds those that survive, and what they say together, against P16.5.
func checkSurvivors(t *testing.T, list []api.Candidate, some []int) {
	t.Helper()
	left, errno := Cluster(list, some)
	if errno != api.OK || len(left) < min(3, len(some)) || len(left) > len(some) {
		fail(t, "Cluster(%v, %v) = %v, %v", list, some, left, errno)
	}
	for at, i := range left {
		if !slices.Contains(some, i) || at > 0 && !isBetter(list, left[at-1], i) {
			fail(t, "Cluster(%v, %v) = %v: not of some, or not in order", list, some, left)
		}
	}
	// Those that survive once survive again, and those of any order are the same.
	checkCluster(t, list, left, left...)
	back := slices.Clone(some)
	slices.Reverse(back)
	checkCluster(t, list, back, left...)
	checkSaid(t, list, left)
}

func checkSaid(t *testing.T, list []api.Candidate, left []int) {
	t.Helper()
	offset, jitter, errno := Combine(list, left)
	if errno != api.OK {
		fail(t, "Combine(%v, %v) = %v", list, left, errno)
	}
	least, greatest := list[left[0]].Offset, list[left[0]].Offset
	for _, i := range left {
		least, greatest = min(least, list[i].Offset), max(greatest, list[i].Offset)
	}
	if offset < least || offset > greatest || jitter < 0 || jitter > greatest-least {
		fail(t, "Combine(%v, %v) = %v, %v; the offset must lie from %v to %v", list, left, offset, jitter, least, greatest)
	}
	// Any other order of the others is the same.
	other := slices.Clone(left)
	slices.Reverse(other[1:])
	checkCombine(t, list, other, offset, jitter)
}

// grow calls with each list of up to n of few candidates.
func grow(few []api.Candidate, n int, list []api.Candidate, call func([]api.Candidate)) {
	call(list)
	if len(list) == n {
		return
	}
	for _, c := range few {
		grow(few, n, append(slices.Clone(list), c), call)
	}
}

// Every list of up to four of a few spans, against each time from below them to above them.
func TestEveryShortIntersection(t *testing.T) {
	var few []api.Candidate
	for offset := range api.Time(4) {
		for dist := range api.Time(3) {
			few = append(few, cand(offset, dist, 0, 0))
		}
	}
	times := []api.Time{-3, -2, -1, 0, 1, 2, 3, 4, 5, 6}
	grow(few, 4, nil, func(list []api.Candidate) {
		checkIntersectAmong(t, times, list)
		if len(list) < 4 {
			checkLaws(t, list)
		}
	})
	grow(cands(0, 1, 0, 3, 2, 1, 3, 1, 3, 0), 5, nil, func(list []api.Candidate) { checkIntersectAmong(t, times, list) })
}

// Every list of up to five of a few candidates, in their order and back.
func TestEveryShortCluster(t *testing.T) {
	few := []api.Candidate{cand(0, 1, 1, 0), cand(0, 1, 0, 0), cand(1, 0, 1, 0), cand(3, api.MaxDist, 2, 0), cand(5, 0, 1, 1), cand(6, 0, 3, 0)}
	grow(few, 5, nil, func(list []api.Candidate) {
		if len(list) == 0 {
			return
		}
		some := upTo(len(list))
		checkClusterAmong(t, list, some)
		slices.Reverse(some)
		checkClusterAmong(t, list, some)
	})
}

func TestEveryShortCombine(t *testing.T) {
	few := cands(0, 0, 1, 0, 1, 1024, -2, 0, 3, 2048, -5, most)
	grow(few, 4, nil, func(list []api.Candidate) {
		if len(list) > 0 {
			checkCombineAmong(t, list, upTo(len(list)))
		}
	})
}

// someNumber is of any size up to most, often at a bound.
func someNumber(r *rand.Rand) api.Time {
	switch r.Intn(14) {
	case 0:
		return most - api.Time(r.Intn(3))
	case 1:
		return api.Time(r.Intn(3))
	}
	return api.Time(r.Int63n(most+1)) >> r.Intn(37)
}

// someList is of candidates that mostly agree, of small numbers, or of any.
func someList(r *rand.Rand) []api.Candidate {
	list := make([]api.Candidate, r.Intn(api.MaxSources+1))
	kind, middle, room := r.Intn(3), api.Time(r.Intn(most))-most/2, api.Time(1)<<(1+r.Intn(34))
	for i := range list {
		c := cand(someNumber(r)-someNumber(r), someNumber(r), someNumber(r), r.Intn(17))
		switch kind {
		case 0:
			c.Offset = middle + api.Time(r.Int63n(int64(room)))
			c.Dist = room/2 + api.Time(r.Int63n(int64(room)))
			c.Jitter = room / 8
			if r.Intn(5) == 0 {
				c.Offset = someNumber(r) - someNumber(r)
			}
		case 1:
			c = cand(api.Time(r.Intn(19)-9), api.Time(r.Intn(9)), api.Time(r.Intn(4)), r.Intn(2))
		}
		list[i] = c
	}
	return list
}

// somePart is some numbers of n candidates in any order.
func somePart(r *rand.Rand, n int) []int {
	return r.Perm(n)[:1+r.Intn(n)]
}

// P16.2 to P16.5
func TestRandomLists(t *testing.T) {
	found, none := 0, 0
	for seed := range int64(1500) {
		r := rand.New(rand.NewSource(seed))
		list := someList(r)
		checkIntersectAmong(t, turns(list), list)
		checkLaws(t, list)
		checkMoved(t, r, list)
		if _, _, errno := Intersect(list); errno == api.OK {
			found++
		} else {
			none++
		}
		for range 3 {
			if len(list) > 0 {
				some := somePart(r, len(list))
				checkClusterAmong(t, list, some)
				checkCombineAmong(t, list, some)
				checkSurvivors(t, list, some)
				checkSaid(t, list, some)
			}
		}
	}
	if found < 200 || none < 200 {
		fail(t, "of the lists %v have an intersection and %v have none: too few of one kind", found, none)
	}
}

// Candidates in another order, all a little later, or seen the other way round, agree likewise.
func checkMoved(t *testing.T, r *rand.Rand, list []api.Candidate) {
	t.Helper()
	s, who, errno := Intersect(list)
	order := r.Perm(len(list))
	other, later, back := slices.Clone(list), slices.Clone(list), slices.Clone(list)
	for i, c := range list {
		other[order[i]] = c
		later[i].Offset = min(c.Offset+1, most)
		back[i].Offset = -c.Offset
	}
	if errno != api.OK {
		refuseIntersect(t, other, errno)
		refuseIntersect(t, back, errno)
		return
	}
	places := make([]int, len(who))
	for at, i := range who {
		places[at] = order[i]
	}
	slices.Sort(places)
	checkIntersect(t, other, s, places...)
	checkIntersect(t, back, span(-s.Hi, -s.Lo), who...)
	if !slices.ContainsFunc(list, func(c api.Candidate) bool { return c.Offset == most }) {
		checkIntersect(t, later, span(s.Lo+1, s.Hi+1), who...)
	}
}

func FuzzVote(f *testing.F) {
	f.Add(int64(2), int64(10), int64(5), int64(10), int64(3), int64(2), int64(100), int64(1), int64(0), 0)
	f.Add(int64(-1<<36), int64(1<<36), int64(5), int64(0), int64(3), int64(1<<20), int64(1<<36), int64(1<<36), int64(7), 16)
	f.Fuzz(func(t *testing.T, a, b, c, d, e, g, h, i, jitter int64, stratum int) {
		list := cands(api.Time(a), api.Time(b), api.Time(c), api.Time(d), api.Time(e), api.Time(g), api.Time(h), api.Time(i))
		for k := range list {
			list[k].Jitter = api.Time(jitter)
		}
		list[3].Stratum = stratum
		if slices.ContainsFunc(list, func(c api.Candidate) bool {
			return max(c.Offset, -c.Offset, c.Dist, c.Jitter) > most || c.Offset < -most || min(c.Dist, c.Jitter, api.Time(c.Stratum)) < 0 || c.Stratum > 16
		}) {
			refuseIntersect(t, list, api.ErrShape)
			refuseBoth(t, list, upTo(4), api.ErrShape)
			return
		}
		checkIntersectAmong(t, turns(list), list)
		checkLaws(t, list)
		checkClusterAmong(t, list, upTo(4))
		checkCombineAmong(t, list, upTo(4))
	})
}
