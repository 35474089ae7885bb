package vote

import (
	"slices"
	"sync"
	"testing"

	"sundial/api"
)

// someLists are right ones, and wrong ones.
func someLists() [][]api.Candidate {
	return append(wrongLists()[:200], nil, about(1), about(3), about(4), about(31), about(32), about(33), apart(4), apart(32), cands(2, 10, 5, 10, 3, 2, 100, 1), steady(0, 0, 1, 2, 3, 90))
}

// someParts are numbers of a list's candidates in any order, and wrong ones.
func someParts(n int) [][]int {
	back := upTo(n)
	slices.Reverse(back)
	return [][]int{nil, upTo(n), back, back[n/2:], {0}, {0, 0}, {-1, 0}, {n, n}, {n - 1, n, 0}}
}

// P16.6: a list and some that are handed in stay, and what stands ahead of them and behind them.
func TestWhatIsHandedInStays(t *testing.T) {
	for _, list := range someLists() {
		for _, spare := range []int{0, 1, 40} {
			all := slices.Concat(about(spare), list, apart(spare))
			was := slices.Clone(all)
			given := all[spare : spare+len(list)]
			Intersect(given)
			for _, some := range someParts(len(list)) {
				numbers := slices.Concat(upTo(spare), some, upTo(spare))
				before := slices.Clone(numbers)
				Cluster(given, numbers[spare:spare+len(some)])
				Combine(given, numbers[spare:spare+len(some)])
				if !slices.Equal(numbers, before) {
					fail(t, "the calls of %v with %v and %v spare change them to %v", list, some, spare, numbers)
				}
			}
			if !slices.Equal(all, was) {
				fail(t, "the calls with %v and %v spare change them to %v", list, spare, all)
			}
		}
	}
}

// What is changed between two calls is answered as what it has become.
func TestNothingIsKept(t *testing.T) {
	list, some := cands(2, 10, 5, 10, 3, 2, 100, 1), []int{1, 0}
	checkIntersect(t, list, span(1, 5), 0, 1, 2)
	checkCluster(t, list, some, 0, 1)
	checkCombine(t, list, some, 3, 2)
	list[3] = cand(1, 1, 0, 0)
	some[0] = 3
	checkIntersect(t, list, span(0, 5), upTo(4)...)
	checkCluster(t, list, some, 3, 0)
	checkCombine(t, list, some, 1, 1)
	list[1].Stratum, some[1] = -1, 5
	refuseIntersect(t, list, api.ErrShape)
	refuseBoth(t, list, some, api.ErrShape)
	list[1].Stratum = 1
	refuseBoth(t, list, some, api.ErrRange)
	some[1] = 3
	refuseBoth(t, list, some, api.ErrTwice)
	some[1] = 1
	checkCluster(t, list, some, 3, 1)
}

// spoil changes a list and its spare room.
func spoil(list []int) {
	all := list[:cap(list)]
	for i := range all {
		all[i] = -7
	}
}

// P16.6: a change of an answer changes neither another one nor what was handed in, not even where some are answered as they are.
func TestAnswersAreNewMemory(t *testing.T) {
	for _, n := range []int{1, 2, 3, 4, 31, 32} {
		list, some := make([]api.Candidate, n), upTo(n)
		_, one, _ := Intersect(list)
		_, two, _ := Intersect(list)
		three, _ := Cluster(list, some)
		four, _ := Cluster(list, some)
		for _, answer := range [][]int{one, two, three, four} {
			if !slices.Equal(answer, upTo(n)) {
				fail(t, "of %v that are alike the answers are %v, %v, %v, %v", n, one, two, three, four)
			}
			spoil(answer)
		}
		if !slices.Equal(some, upTo(n)) || !slices.Equal(list, make([]api.Candidate, n)) {
			fail(t, "changes of answers change what was handed in: %v, %v", list, some)
		}
		checkIntersect(t, list, span(0, 0), some...)
		checkCluster(t, list, some, some...)
	}
}

// Calls side by side on one list: they only read it.
func TestSideBySide(t *testing.T) {
	list, some := steady(0, 0, 1, 2, 3, 90), []int{4, 3, 2, 1, 0}
	for i := range list {
		list[i].Dist = 10
	}
	var all sync.WaitGroup
	for range 8 {
		all.Go(func() {
			for range 50 {
				if s, who, errno := Intersect(list); s != span(-7, 10) || !slices.Equal(who, upTo(4)) || errno != api.OK {
					t.Errorf("Intersect = %v, %v, %v", s, who, errno)
				}
				if left, errno := Cluster(list, some); !slices.Equal(left, upTo(3)) || errno != api.OK {
					t.Errorf("Cluster = %v, %v", left, errno)
				}
				if x, jitter, errno := Combine(list, some); x != 19 || jitter != 71 || errno != api.OK {
					t.Errorf("Combine = %v, %v, %v", x, jitter, errno)
				}
			}
		})
	}
	all.Wait()
}
