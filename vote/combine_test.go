package vote

import (
	"slices"
	"testing"

	"sundial/api"
)

type saying struct {
	list           []api.Candidate
	some           []int
	offset, jitter api.Time
}

// P16.4
func TestCombineOfFew(t *testing.T) {
	for _, r := range []saying{
		{cands(7, 0), []int{0}, 7, 0}, {cands(-7, most), []int{0}, -7, 0}, {cands(0, 0), []int{0}, 0, 0}, {cands(3, 0, 5, 0, 9, 0), []int{1}, 5, 0},
		{cands(0, 0, 10, 0), []int{0, 1}, 5, 5}, {cands(0, 0, 10, 0), []int{1, 0}, 5, 5}, {cands(4, 1, 4, 9999), []int{0, 1}, 4, 0},
		// The jitter is about the first of some, wherever that stands in the list.
		{cands(0, 0, 10, 0, 20, 0), []int{0, 1, 2}, 10, 10}, {cands(0, 0, 10, 0, 20, 0), []int{1, 0, 2}, 10, 7}, {cands(0, 0, 10, 0, 20, 0), []int{1, 2, 0}, 10, 7}, {cands(0, 0, 10, 0, 20, 0), []int{2, 1, 0}, 10, 10}, {cands(0, 0, 10, 0, 20, 0), []int{2, 0}, 10, 10},
		// An offset that isn't whole is rounded down, a jitter that isn't, up; both on both sides of nought.
		{cands(3, 0, 4, 0), []int{0, 1}, 3, 1}, {cands(-3, 0, -4, 0), []int{0, 1}, -4, 1}, {cands(0, 0, -1, 0), []int{0, 1}, -1, 1}, {cands(0, 0, 1, 0), []int{1, 0}, 0, 1}, {cands(-1, 0, 2, 0), []int{0, 1}, 0, 2}, {cands(1, 0, -2, 0), []int{0, 1}, -1, 2},
		{cands(1, 0, 2, 0, 2, 0), []int{0, 1, 2}, 1, 1}, {cands(-1, 0, -2, 0, -2, 0), []int{0, 1, 2}, -2, 1}, {cands(1, 0, 2, 0, 2, 0), []int{1, 0, 2}, 1, 1}, {cands(0, 0, 3, 0, 4, 0), []int{0, 1, 2}, 2, 3}, {cands(0, 0, -3, 0, -4, 0), []int{0, 1, 2}, -3, 3},
		{cands(0, 0, 3, 0, 3, 0), []int{0, 1, 2}, 2, 2}, {cands(0, 0, -3, 0, -3, 0), []int{0, 1, 2}, -2, 2}, {cands(-5, 0, -5, 0, 5, 0, 5, 0), upTo(4), 0, 5}, {cands(0, 0, 1, 0, 0, 0, 0, 0), upTo(4), 0, 1}, {cands(0, 0, -1, 0, 0, 0, 0, 0), upTo(4), -1, 1},
		// Stratum and Jitter make no difference.
		{[]api.Candidate{cand(0, 0, most, 16), cand(10, 0, 0, 0)}, []int{0, 1}, 5, 5},
		// Weights 2 to 1, and 2^20 to 1.
		{cands(0, 0, 9, 1024), []int{0, 1}, 3, 3}, {cands(9, 0, 0, 1024), []int{0, 1}, 6, 3}, {cands(-10, 0, 0, 1024), []int{0, 1}, -7, 4}, {cands(0, 0, -10, 1024), []int{0, 1}, -4, 4},
		{cands(0, 0, 10, most), []int{0, 1}, 0, 1}, {cands(0, 0, -10, most), []int{0, 1}, -1, 1}, {cands(0, most, 10, most), []int{0, 1}, 5, 5}, {cands(0, most, 10, 1<<30), []int{0, 1}, 5, 5},
		{cands(0, 0, 1<<20+1, most), []int{0, 1}, 1, 1}, {cands(0, 0, 1<<20, most), []int{0, 1}, 0, 1}, {cands(0, 0, 1<<20+2, most), []int{0, 1}, 1, 2}, {cands(0, 0, -1<<20-1, most), []int{0, 1}, -1, 1}, {cands(0, 0, -1<<20-2, most), []int{0, 1}, -2, 2},
	} {
		checkCombine(t, r.list, r.some, r.offset, r.jitter)
	}
}

// A Dist and its weight: rounded down twice, at least 1.
func TestWeights(t *testing.T) {
	for dist, w := range map[api.Time]api.Time{
		0: 1 << 20, 1: 1 << 20, 1022: 1 << 20, 1023: 1 << 20, 1024: 1 << 19, 2047: 1 << 19, 2048: 349525, 3071: 349525, 3072: 1 << 18, 4095: 1 << 18, 4096: 209715,
		api.MaxDist: 682, 1048576: 1023, 1048575: 1024, 1<<29 - 1025: 2, 1<<29 - 1024: 2, 1<<29 - 1: 2, 1 << 29: 1, 1<<30 - 1025: 1, 1<<30 - 1024: 1, 1<<30 - 1: 1, 1 << 30: 1, 1 << 31: 1, most - 1: 1, most: 1,
	} {
		// Of nought by 2^20 and x by w both are x w by 2^20 + w: with that as x, w itself.
		sum := 1<<20 + w
		checkCombine(t, cands(0, 0, sum, dist), []int{0, 1}, w, w)
		checkCombine(t, cands(0, 1023, -sum, dist), []int{0, 1}, -w, w)
		checkCombine(t, cands(0, 1023, sum, dist), []int{1, 0}, w, 1<<20)
		checkCombine(t, cands(0, 0, sum-1, dist), []int{0, 1}, w-1, w)
	}
}

func TestCombineAtTheBounds(t *testing.T) {
	for _, n := range []int{1, 2, 3, 4, 31, 32} {
		for _, dist := range []api.Time{0, 1023, 1024, most} {
			for _, x := range []api.Time{most, -most} {
				list := slices.Repeat(cands(x, dist), n)
				checkCombine(t, list, upTo(n), x, 0)
				list[0].Offset = -x
				m := api.Time(n)
				low := (x*(m-2) - (x*(m-2)%m+m)%m) / m
				checkCombine(t, list, upTo(n), low, (2*most*(m-1)+m-1)/m)
			}
		}
	}
	// All the weight is the first one's, or all but the first one's.
	list := slices.Repeat(cands(most, 0), 32)
	list[0] = cand(-most, most, 0, 0)
	checkCombineAmong(t, list, upTo(32))
	list = slices.Repeat(cands(most, most), 32)
	list[0] = cand(-most, 0, 0, 0)
	checkCombineAmong(t, list, upTo(32))
}

// Those that aren't of some count for nothing.
func TestCombineOfAPart(t *testing.T) {
	list := cands(1, 0, most, 0, 2, 0, -most, 0, 6, 0)
	checkCombine(t, list, []int{0, 2, 4}, 3, 2)
	checkCombine(t, list, []int{4, 2, 0}, 3, 3)
	checkCombine(t, list, []int{2, 4}, 4, 2)
	checkCombine(t, list, []int{1, 3}, 0, most)
	checkCombine(t, list, []int{3}, -most, 0)
}
