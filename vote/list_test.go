package vote

import (
	"fmt"
	"math"
	"slices"
	"testing"

	"sundial/api"
)

const most = 1 << 36

func cand(offset, dist, jitter api.Time, stratum int) api.Candidate {
	return api.Candidate{Offset: offset, Dist: dist, Jitter: jitter, Stratum: stratum}
}

// cands takes Offset and Dist of candidates in their order, Jitter and Stratum 0.
func cands(numbers ...api.Time) []api.Candidate {
	var list []api.Candidate
	for i := 0; i+1 < len(numbers); i += 2 {
		list = append(list, cand(numbers[i], numbers[i+1], 0, 0))
	}
	return list
}

// steady is candidates of these Offsets that all have this Jitter, each with a Dist one greater than the one before.
func steady(jitter api.Time, offsets ...api.Time) []api.Candidate {
	var list []api.Candidate
	for i, offset := range offsets {
		list = append(list, cand(offset, api.Time(i), jitter, 1))
	}
	return list
}

// about is so many candidates about nought, the best first, whose spans all hold it.
func about(n int) []api.Candidate {
	var list []api.Candidate
	for i := range n {
		list = append(list, cand(api.Time(i), api.Time(10*i), 7, i%17))
	}
	return list
}

// apart is so many candidates whose spans have nothing in common.
func apart(n int) []api.Candidate {
	var list []api.Candidate
	for i := range n {
		list = append(list, cand(api.Time(1000*i+1000), 1, 0, 3))
	}
	return list
}

func span(lo, hi api.Time) api.Span { return api.Span{Lo: lo, Hi: hi} }

// upTo is the numbers below n.
func upTo(n int) []int {
	var some []int
	for i := range n {
		some = append(some, i)
	}
	return some
}

// wrongCandidates aren't right, each for another reason.
func wrongCandidates() []api.Candidate {
	var list []api.Candidate
	for _, x := range []api.Time{most + 1, most + 2, 1 << 37, 1 << 62, math.MaxInt64 - 1, math.MaxInt64, -most - 1, -most - 2, -1 << 37, -1 << 62, math.MinInt64, math.MinInt64 + 1} {
		list = append(list, cand(x, 5, 5, 5), cand(5, x, 5, 5), cand(5, 5, x, 5), cand(x, x, x, 5), cand(x, most, 0, 16), cand(-most, x, most, 0), cand(most, 0, x, 0))
	}
	for _, x := range []api.Time{-1, -2, -1024, -1 << 32, -most} {
		list = append(list, cand(5, x, 5, 5), cand(5, 5, x, 5), cand(0, x, 0, 0), cand(most, most, x, 16), cand(-most, x, x, 0))
	}
	for _, x := range []int{-1, -2, -16, -17, 17, 18, 32, 255, 256, 1 << 16, 1 << 31, 1 << 32, -1 << 32, 1<<32 + 1, math.MinInt64, math.MaxInt64} {
		list = append(list, cand(5, 5, 5, x), cand(-most, 0, 0, x), cand(most, most, most, x))
	}
	return list
}

// candidatesAtBounds are right, each number at one of its bounds or beside it.
func candidatesAtBounds() []api.Candidate {
	var list []api.Candidate
	for _, offset := range []api.Time{-most, 1 - most, -1, 0, 1, most - 1, most} {
		for _, dist := range []api.Time{0, 1, most - 1, most} {
			for _, jitter := range []api.Time{0, 1, most - 1, most} {
				for _, stratum := range []int{0, 1, 15, 16} {
					list = append(list, cand(offset, dist, jitter, stratum))
				}
			}
		}
	}
	return list
}

// wrongLists have one that isn't right at the beginning, in the middle or at the end, or too many.
func wrongLists() [][]api.Candidate {
	var lists [][]api.Candidate
	for _, bad := range wrongCandidates() {
		for _, n := range []int{1, 2, 3, 4, 31, 32, 33} {
			for _, place := range []int{0, n / 2, n - 1} {
				list := about(n)
				list[place] = bad
				lists = append(lists, list)
			}
		}
	}
	lists = append(lists, slices.Repeat(wrongCandidates()[:1], 3), wrongCandidates())
	for _, n := range []int{33, 34, 64, 65, 100, 5000} {
		lists = append(lists, about(n), apart(n), make([]api.Candidate, n))
	}
	return lists
}

// noNumbers are numbers of none of n candidates.
func noNumbers(n int) []int {
	return []int{math.MinInt64, math.MinInt64 + 1, -1 << 32, -1 << 31, -33, -32, -2, -1, n, n + 1, n + 32, 1 << 31, 1 << 32, 1<<32 + 1, math.MaxInt64 - 1, math.MaxInt64}
}

// fail tells what is wrong, each thing of it cut where it gets long.
func fail(t *testing.T, form string, things ...any) {
	t.Helper()
	for i, thing := range things {
		things[i] = fmt.Sprintf("%.900s", fmt.Sprint(thing))
	}
	t.Fatalf(form, things...)
}

func checkIntersect(t *testing.T, list []api.Candidate, want api.Span, who ...int) {
	t.Helper()
	if s, chimers, errno := Intersect(list); s != want || !slices.Equal(chimers, who) || errno != api.OK {
		fail(t, "Intersect(%v) = %v, %v, %v; want %v, %v", list, s, chimers, errno, want, who)
	}
}

func checkCluster(t *testing.T, list []api.Candidate, some []int, want ...int) {
	t.Helper()
	if left, errno := Cluster(list, some); !slices.Equal(left, want) || errno != api.OK {
		fail(t, "Cluster(%v, %v) = %v, %v; want %v", list, some, left, errno, want)
	}
}

func checkCombine(t *testing.T, list []api.Candidate, some []int, offset, jitter api.Time) {
	t.Helper()
	if x, j, errno := Combine(list, some); x != offset || j != jitter || errno != api.OK {
		fail(t, "Combine(%v, %v) = %v, %v, %v; want %v, %v", list, some, x, j, errno, offset, jitter)
	}
}

func refuseIntersect(t *testing.T, list []api.Candidate, want api.Errno) {
	t.Helper()
	if s, who, errno := Intersect(list); s != (api.Span{}) || who != nil || errno != want {
		fail(t, "Intersect(%v) = %v, %v, %v; want %v", list, s, who, errno, want)
	}
}

// refuseBoth is of Cluster and Combine, which refuse alike.
func refuseBoth(t *testing.T, list []api.Candidate, some []int, want api.Errno) {
	t.Helper()
	if left, errno := Cluster(list, some); left != nil || errno != want {
		fail(t, "Cluster(%v, %v) = %v, %v; want %v", list, some, left, errno, want)
	}
	if x, j, errno := Combine(list, some); x != 0 || j != 0 || errno != want {
		fail(t, "Combine(%v, %v) = %v, %v, %v; want %v", list, some, x, j, errno, want)
	}
}

// The chapter's examples.
func TestExamples(t *testing.T) {
	checkIntersect(t, cands(2, 10, 5, 10, 3, 2, 100, 1), span(1, 5), 0, 1, 2)
	refuseIntersect(t, cands(0, 10, 100, 10), api.ErrNone)
	checkCluster(t, cands(0, 1, 1, 1, 2, 1, 3, 1, 90, 1), upTo(5), 0, 1, 2)
	checkCombine(t, cands(0, 0, 10, 0), upTo(2), 5, 5)
	checkCombine(t, cands(0, 0, 10, 1048576), upTo(2), 0, 1)
}

// P16.1: of a wrong list each tells ErrShape, whatever else it is handed.
func TestWrongLists(t *testing.T) {
	for _, list := range wrongLists() {
		n := len(list)
		refuseIntersect(t, list, api.ErrShape)
		for _, some := range [][]int{nil, {}, {0}, {n - 1, 0, n / 2}, {0, 0}, {-1}, {n}, {0, math.MaxInt64, 0}, {math.MinInt64, math.MinInt64}, upTo(n), upTo(n + 1)} {
			refuseBoth(t, list, some, api.ErrShape)
		}
	}
}

// What is at its bounds is right, at each place of a list.
func TestCandidatesAtTheirBounds(t *testing.T) {
	for _, one := range candidatesAtBounds() {
		s := span(one.Offset-one.Dist, one.Offset+one.Dist)
		checkIntersect(t, []api.Candidate{one}, s, 0)
		checkCluster(t, []api.Candidate{one}, []int{0}, 0)
		checkCombine(t, []api.Candidate{one}, []int{0}, one.Offset, 0)
		for _, n := range []int{3, 4, 31, 32} {
			for _, place := range []int{0, n / 2, n - 1} {
				list := slices.Repeat([]api.Candidate{one}, n)
				checkIntersect(t, list, s, upTo(n)...)
				list[place] = cand(3, 3, 3, 3)
				checkLaws(t, list)
			}
		}
	}
}

// Each that isn't right is one as soon as it is mended, at every place of a list.
func TestMendedLists(t *testing.T) {
	for _, n := range []int{1, 2, 3, 4, 31, 32} {
		for place := range n {
			list := slices.Repeat(cands(9, 9), n)
			list[place].Dist = -1
			refuseIntersect(t, list, api.ErrShape)
			refuseBoth(t, list, upTo(n), api.ErrShape)
			list[place].Dist = 9
			checkIntersect(t, list, span(0, 18), upTo(n)...)
			checkCluster(t, list, upTo(n), clusterOf(list, upTo(n))...)
			checkCombine(t, list, upTo(n), 9, 0)
			list[place].Stratum = 17
			refuseIntersect(t, list, api.ErrShape)
			refuseBoth(t, list, []int{place}, api.ErrShape)
			list[place].Stratum = 16
			checkIntersect(t, list, span(0, 18), upTo(n)...)
			checkCombine(t, list, upTo(n), 9, 0)
		}
	}
}

// P16.1: ErrRange, wherever the number of no candidate stands and whatever else is in some.
func TestNumbersOfNoCandidate(t *testing.T) {
	for _, n := range []int{0, 1, 2, 3, 4, 31, 32} {
		for _, bad := range noNumbers(n) {
			for place := range n + 1 {
				refuseBoth(t, about(n), slices.Insert(upTo(n), place, bad), api.ErrRange)
			}
			refuseBoth(t, about(n), []int{bad, bad}, api.ErrRange)
			refuseBoth(t, about(n), slices.Repeat([]int{bad}, 100), api.ErrRange)
			if n > 0 {
				refuseBoth(t, about(n), []int{0, 0, bad}, api.ErrRange)
				refuseBoth(t, about(n), []int{n - 1, bad, n - 1}, api.ErrRange)
				refuseBoth(t, about(n), slices.Concat(slices.Repeat(upTo(n), 50), []int{bad}), api.ErrRange)
			}
		}
	}
	// What stands in a list's spare room is none of it.
	refuseBoth(t, about(5)[:4], []int{4}, api.ErrRange)
}

// P16.1: ErrTwice, whichever number stands twice, and wherever.
func TestNumbersThatStandTwice(t *testing.T) {
	for _, n := range []int{1, 2, 3, 4, 31, 32} {
		for twice := range n {
			for place := range n + 1 {
				refuseBoth(t, about(n), slices.Insert(upTo(n), place, twice), api.ErrTwice)
			}
			refuseBoth(t, about(n), []int{twice, twice}, api.ErrTwice)
			refuseBoth(t, about(n), slices.Repeat([]int{twice}, 100), api.ErrTwice)
		}
		refuseBoth(t, about(n), slices.Repeat(upTo(n), 2000), api.ErrTwice)
	}
}

// P16.2 to P16.4: nil and empty mean the same, with room behind them or without.
func TestNothingIsHandedIn(t *testing.T) {
	for _, list := range [][]api.Candidate{nil, {}, make([]api.Candidate, 0, 40), about(33)[:0], wrongCandidates()[:0]} {
		refuseIntersect(t, list, api.ErrNone)
		for _, some := range [][]int{nil, {}, make([]int, 0, 9), upTo(3)[:0]} {
			refuseBoth(t, list, some, api.ErrNone)
			for _, n := range []int{1, 2, 3, 4, 31, 32} {
				refuseBoth(t, about(n), some, api.ErrNone)
			}
		}
		for _, bad := range noNumbers(0) {
			refuseBoth(t, list, []int{bad}, api.ErrRange)
		}
	}
}

func TestWrongCandidatesBehindAList(t *testing.T) {
	list := append(cands(2, 10, 5, 10, 3, 2), wrongCandidates()...)[:3]
	checkIntersect(t, list, span(1, 5), 0, 1, 2)
	checkCluster(t, list, append([]int{2, 0}, noNumbers(3)...)[:2], 2, 0)
	checkCombine(t, list, append([]int{2, 0}, noNumbers(3)...)[:2], 2, 1)
}
