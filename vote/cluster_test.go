package vote

import (
	"slices"
	"testing"

	"sundial/api"
)

// P16.3: up to three survive, however far off they lie; they are sorted.
func TestClusterOfUpToThree(t *testing.T) {
	list := []api.Candidate{cand(0, 9, 0, 2), cand(most, 3, 0, 2), cand(-most, 5, 0, 1), cand(7, most, 0, 0), cand(5, 0, most, 2)}
	for _, r := range []struct{ some, want []int }{
		{[]int{0}, []int{0}}, {[]int{3}, []int{3}}, {[]int{4}, []int{4}},
		{[]int{0, 1}, []int{1, 0}}, {[]int{1, 0}, []int{1, 0}}, {[]int{1, 2}, []int{2, 1}}, {[]int{3, 2}, []int{2, 3}}, {[]int{0, 4}, []int{4, 0}},
		{[]int{0, 1, 2}, []int{2, 1, 0}}, {[]int{2, 0, 1}, []int{2, 1, 0}}, {[]int{3, 4, 0}, []int{4, 0, 3}}, {[]int{1, 3, 4}, []int{4, 1, 3}}, {[]int{4, 3, 1}, []int{4, 1, 3}},
	} {
		checkCluster(t, list, r.some, r.want...)
	}
}

// They are sorted by Stratum times MaxDist plus Dist, then by their numbers: a stratum more is a MaxDist more.
func TestClusterOrder(t *testing.T) {
	for _, r := range []struct {
		list []api.Candidate
		want []int
	}{
		{[]api.Candidate{cand(0, api.MaxDist, 0, 0), cand(0, 0, 0, 1)}, []int{0, 1}}, {[]api.Candidate{cand(0, 0, 0, 1), cand(0, api.MaxDist, 0, 0)}, []int{0, 1}},
		{[]api.Candidate{cand(0, api.MaxDist+1, 0, 0), cand(0, 0, 0, 1)}, []int{1, 0}}, {[]api.Candidate{cand(0, 0, 0, 1), cand(0, api.MaxDist-1, 0, 0)}, []int{1, 0}},
		{[]api.Candidate{cand(0, 16*api.MaxDist, 0, 0), cand(0, 0, 0, 16), cand(0, 8*api.MaxDist, 0, 8)}, []int{0, 1, 2}}, {[]api.Candidate{cand(0, most, 0, 0), cand(0, 0, 0, 16), cand(0, most, 0, 16)}, []int{1, 0, 2}},
		{[]api.Candidate{cand(0, 1, 0, 0), cand(0, 1, 0, 0), cand(0, 0, 0, 0)}, []int{2, 0, 1}}, {[]api.Candidate{cand(9, 1, 3, 4), cand(5, 1, 2, 4), cand(1, 1, 1, 4)}, []int{0, 1, 2}},
		// Offset and Jitter make no difference to it.
		{[]api.Candidate{cand(most, 2, most, 0), cand(-most, 1, most, 0), cand(0, 3, 0, 0)}, []int{1, 0, 2}},
	} {
		some := upTo(len(r.list))
		checkCluster(t, r.list, some, r.want...)
		slices.Reverse(some)
		checkCluster(t, r.list, some, r.want...)
	}
	for _, n := range []int{4, 31, 32} {
		list := make([]api.Candidate, n)
		some := upTo(n)
		slices.Reverse(some)
		checkCluster(t, list, some, upTo(n)...)
		for i := range list {
			list[i].Dist = api.Time(n - i)
		}
		checkCluster(t, list, upTo(n), some...)
	}
}

// P16.3: one is left out as long as the greatest select jitter is above the least Jitter.
func TestClusterAtTheLeastJitter(t *testing.T) {
	for _, far := range []api.Time{0, 1000, -1000, most - 30, -most} {
		// The select jitters of these are 10, 10, 10 and 30.
		for jitter, left := range map[api.Time]int{0: 3, 9: 3, 10: 3, 28: 3, 29: 3, 30: 4, 31: 4, most: 4} {
			list := steady(jitter, far, far, far, far+30)
			checkCluster(t, list, upTo(4), upTo(left)...)
			// It's the least one that counts, whichever has it.
			for i := range list {
				one := steady(most, far, far, far, far+30)
				one[i].Jitter = jitter
				checkCluster(t, one, upTo(4), upTo(left)...)
			}
		}
	}
}

// The select jitter is rounded down: of 0, 0, 1 and k it's k less a third.
func TestClusterRoundsDown(t *testing.T) {
	for _, k := range []api.Time{20, 21, 22, 300, most} {
		checkCluster(t, steady(k-1, 0, 0, 1, k), upTo(4), upTo(4)...)
		checkCluster(t, steady(k-2, 0, 0, 1, k), upTo(4), upTo(3)...)
		checkCluster(t, steady(k-1, 0, 1, 1, k), upTo(4), upTo(4)...)
		checkCluster(t, steady(k-2, 0, 1, 1, k), upTo(4), upTo(3)...)
		checkCluster(t, steady(k-1, 1, 1, 1, k), upTo(4), upTo(4)...)
		checkCluster(t, steady(k-2, 1, 1, 1, k), upTo(4), upTo(3)...)
		checkCluster(t, steady(0, 1, 1, 1, 1), upTo(4), upTo(4)...)
		// 1, 1, 1 and 2: a third, a third, a third and one.
		checkCluster(t, steady(0, 1, 1, 1, 2), upTo(4), upTo(3)...)
		checkCluster(t, steady(1, 1, 1, 1, 2), upTo(4), upTo(4)...)
	}
	// Of five, 0, 0, 0, 0 and 1 have a quarter and one, and of 0, 0, 0, 1 and 1 each has below one.
	checkCluster(t, steady(0, 0, 0, 0, 0, 1), upTo(5), upTo(4)...)
	checkCluster(t, steady(0, 0, 0, 0, 1, 1), upTo(5), upTo(5)...)
}

// Of several that have the greatest select jitter the last one in the order is left out.
func TestClusterLeavesOutTheLast(t *testing.T) {
	// All four have 20.
	checkCluster(t, steady(0, 0, 0, 30, 30), upTo(4), 0, 1, 2)
	checkCluster(t, steady(19, 0, 30, 30, 0), upTo(4), 0, 1, 2)
	checkCluster(t, steady(20, 0, 30, 30, 0), upTo(4), 0, 1, 2, 3)
	// The first and the last one have the greatest; then the second and the third.
	checkCluster(t, steady(0, 0, 5, 5, 10), upTo(4), 0, 1, 2)
	checkCluster(t, steady(0, 5, 0, 10, 5), upTo(4), 0, 1, 3)
	checkCluster(t, steady(0, 5, 0, 5, 10), upTo(4), 0, 1, 2)
	checkCluster(t, steady(0, 10, 5, 5, 0), upTo(4), 0, 1, 2)
	checkCluster(t, steady(0, 0, 10, 5, 5), upTo(4), 0, 2, 3)
	// 0 has 11 thirds, 5 has 9 of them: both are 3, rounded down.
	checkCluster(t, steady(0, 0, 3, 3, 5), upTo(4), 0, 1, 2)
	checkCluster(t, steady(0, 5, 3, 3, 0), upTo(4), 0, 1, 2)
	// The order is told by Dist and Stratum, not by the numbers alone.
	list := steady(0, 0, 0, 30, 30)
	list[0].Dist = 4
	checkCluster(t, list, upTo(4), 1, 2, 3)
	list[1].Stratum = 2
	checkCluster(t, list, upTo(4), 2, 3, 0)
	// Those that are alike in it: the greatest number is the last.
	checkCluster(t, cands(0, 7, 30, 7, 0, 7, 30, 7), []int{3, 1, 2, 0}, 0, 1, 2)
	checkCluster(t, make([]api.Candidate, 4), []int{3, 1, 2, 0}, 0, 1, 2, 3)
}

// It goes on with those that are left: their select jitters, and their least Jitter.
func TestClusterGoesOn(t *testing.T) {
	// 1000 has 992 and a half, rounded down; among the others 30 has 30.
	for jitter, left := range map[api.Time]int{0: 3, 29: 3, 30: 4, 31: 4, 991: 4, 992: 5, 993: 5} {
		checkCluster(t, steady(jitter, 0, 0, 0, 30, 1000), upTo(5), upTo(left)...)
	}
	// The one that goes had the least Jitter, so the others stay.
	list := steady(30, 0, 0, 0, 30, 1000)
	list[4].Jitter = 0
	checkCluster(t, list, upTo(5), 0, 1, 2, 3)
	list[3].Jitter = 29
	checkCluster(t, list, upTo(5), 0, 1, 2)
	// The chapter's example, further on: 0 and 3 have 2.
	checkCluster(t, steady(1, 0, 1, 2, 3, 90), upTo(5), 0, 1, 2)
	checkCluster(t, steady(2, 0, 1, 2, 3, 90), upTo(5), 0, 1, 2, 3)
	checkCluster(t, steady(88, 0, 1, 2, 3, 90), upTo(5), upTo(5)...)
	checkCluster(t, steady(87, 0, 1, 2, 3, 90), upTo(5), 0, 1, 2, 3)
}

// Those that aren't of some count for nothing.
func TestClusterOfAPart(t *testing.T) {
	list := slices.Concat(steady(30, 0, 0, 0, 30), cands(-most, 0, most, 0, 0, 0))
	checkCluster(t, list, []int{3, 1, 2, 0}, 0, 1, 2, 3)
	checkCluster(t, list, []int{3, 1, 6, 0}, 6, 0, 1)
	checkCluster(t, list, []int{6, 2, 1, 0}, 6, 0, 1, 2)
	checkCluster(t, list, []int{5, 4, 6}, 4, 5, 6)
	checkCluster(t, list, []int{3, 5}, 5, 3)
	list[3].Jitter = 0
	checkCluster(t, list, []int{0, 1, 2}, 0, 1, 2)
	checkCluster(t, list, []int{0, 1, 2, 3}, 0, 1, 2)
}

// Many, of which all but three lie ever farther off; and of which none does.
func TestClusterOfMany(t *testing.T) {
	for _, n := range []int{4, 5, 31, 32} {
		for kept := 3; kept <= n; kept++ {
			// Those beyond kept lie off ever farther; the others not at all.
			list := make([]api.Candidate, n)
			for i := range list {
				list[i].Dist = api.Time(i)
				list[i].Jitter = 1
				if i >= kept {
					list[i].Offset = 1 << i
				}
			}
			checkCluster(t, list, upTo(n), upTo(kept)...)
			some := upTo(n)
			slices.Reverse(some)
			checkCluster(t, list, some, upTo(kept)...)
		}
	}
}

func TestClusterAtTheBounds(t *testing.T) {
	for _, n := range []int{5, 6, 31, 32} {
		// At either bound about a half: each of the lesser half is farther off than any Jitter, until all of it is left out.
		half := (n + 1) / 2
		list := slices.Concat(slices.Repeat([]api.Candidate{cand(-most, most, most, 16)}, half), slices.Repeat([]api.Candidate{cand(most, most, most, 16)}, n-half))
		checkCluster(t, list, upTo(n), upTo(half)...)
		checkCluster(t, list, upTo(n)[n-half-1:], clusterOf(list, upTo(n)[n-half-1:])...)
	}
	checkCluster(t, steady(most, 0, 0, 0, most), upTo(4), upTo(4)...)
	checkCluster(t, steady(most-1, 0, 0, 0, most), upTo(4), upTo(3)...)
	checkCluster(t, steady(most, 0, 0, 0, -most), upTo(4), upTo(4)...)
	checkCluster(t, steady(most-1, 0, 0, 0, -most), upTo(4), upTo(3)...)
	checkCluster(t, steady(most, 1, 1, 1, -most), upTo(4), upTo(3)...)
	checkCluster(t, steady(most, -most, -most, -most, most), upTo(4), upTo(3)...)
	checkCluster(t, steady(most, -most, most, most, most), upTo(4), 1, 2, 3)
}
