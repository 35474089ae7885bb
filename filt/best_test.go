package filt

import (
	"math"
	"testing"

	"sundial/api"
)

// The chapter's examples.
func TestExamples(t *testing.T) {
	first, second := sampleOf(5, 20, 1, 100), sampleOf(9, 10, 1, 200)
	f := New()
	add(t, f, first, api.OK)
	add(t, f, sampleOf(0, 0, 0, 100), api.ErrOrder)
	add(t, f, second, api.OK)
	checkBest(t, f, 200, 0, second)
	checkJitter(t, f, 200, 0, 4, 5)
	checkBest(t, f, 1000000200, 1000, sampleOf(9, 10, 1000001, 200))
	checkRefusal(t, f, 199, 0, api.ErrRange)
	drop(t, f, api.OK)
	checkRefusal(t, f, 200, 0, api.ErrNone)
}

// P14.3: now, from the newest sample's At to 2^58.
func TestNowOutOfRange(t *testing.T) {
	for _, at := range []api.Time{1, 2, 100, 1 << 40, last - 2, last} {
		one := filterOf(t, sampleOf(1, 2, 3, at))
		many := New()
		for i := range api.Time(12) {
			if s := sampleOf(1, 2, 3, at-12+i); s.At >= 0 {
				add(t, many, s, api.OK)
			}
		}
		add(t, many, sampleOf(1, 0, 3, at), api.OK)
		for _, f := range []*Filter{one, many} {
			was := *f
			for _, now := range []api.Time{at - 1, 0, -1, -at, last + 1, last + at, api.Far, api.Far + 1, math.MinInt64, math.MaxInt64} {
				for _, ppm := range rates() {
					checkRefusal(t, f, now, ppm, api.ErrRange)
				}
			}
			checkSame(t, f, was)
		}
		for _, now := range []api.Time{at, at + 1, last - 1, last} {
			if at <= now && now <= last {
				checkBest(t, one, now, 0, sampleOf(1, 2, 3, at))
				checkBest(t, many, now, 0, sampleOf(1, 0, 3, at))
			}
		}
	}
	checkBest(t, filterOf(t, sampleOf(1, 2, 3, 0)), 0, 1000, sampleOf(1, 2, 3, 0))
	checkRefusal(t, filterOf(t, sampleOf(1, 2, 3, 0)), -1, 1000, api.ErrRange)
}

// Of the samples' Ats it is the newest that now is held against, not the best one's, nor the oldest.
func TestNowBelowTheNewest(t *testing.T) {
	f := filterOf(t, sampleOf(1, 0, 0, 100), sampleOf(2, 9, 9, 200), sampleOf(3, 9, 9, 300))
	for _, now := range []api.Time{0, 99, 100, 150, 200, 299} {
		checkRefusal(t, f, now, 0, api.ErrRange)
	}
	checkBest(t, f, 300, 0, sampleOf(1, 0, 0, 100))
}

// P14.3: ppm, from 0 to 1000.
func TestRateOutOfRange(t *testing.T) {
	f := filterOf(t, sampleOf(1, 2, 3, 100), sampleOf(2, 2, 2, 200))
	was := *f
	for _, now := range []api.Time{200, 201, 1000, last} {
		for _, ppm := range []int{-1, -2, -1000, 1001, 1002, 1000000, 1 << 31, 1<<31 + 1, math.MinInt64, math.MaxInt64} {
			checkRefusal(t, f, now, ppm, api.ErrRange)
		}
	}
	checkSame(t, f, was)
	for ppm, disp := range map[int]api.Time{0: 2, 1: 2 + 1000, 2: 2 + 2000, 15: 2 + 15000, 999: 2 + 999000, 1000: 2 + 1000000} {
		checkBest(t, f, 200+1000000000, ppm, sampleOf(2, 2, disp, 200))
	}
}

// P14.3: what it has aged, as a whole number and rounded up.
func TestAge(t *testing.T) {
	for _, c := range []struct {
		since api.Time
		ppm   int
		aged  api.Time
	}{
		{0, 0, 0}, {0, 1, 0}, {0, 1000, 0}, {last, 0, 0}, {1, 0, 0},
		{1, 1, 1}, {1, 1000, 1}, {999, 1000, 1}, {1000, 1000, 1}, {1001, 1000, 2}, {1999, 1000, 2}, {2000, 1000, 2}, {2001, 1000, 3},
		{999999, 1, 1}, {1000000, 1, 1}, {1000001, 1, 2}, {1999999, 1, 2}, {2000000, 1, 2}, {2000001, 1, 3},
		{66666, 15, 1}, {66667, 15, 2}, {1000000, 15, 15}, {200000, 15, 3}, {200001, 15, 4}, {199999, 15, 3},
		{1001001, 999, 1000}, {1001002, 999, 1001}, {1000000, 999, 999}, {1 << 50, 7, 7881299348}, {1 << 20, 1000, 1049},
		{1099511627776000, 1000, bound}, {1099511627775999, 1000, bound}, {1099511627775001, 1000, bound}, {1099511627775000, 1000, bound - 1},
		{1099511627776001, 1000, bound}, {1099511627777000, 1000, bound}, {1099511627777001, 1000, bound}, {1 << 57, 1000, bound}, {last, 1000, bound}, {last, 15, bound},
		{last, 3, 864691128456}, {last, 4, bound}, {274877906944000000, 4, bound}, {274877906943750000, 4, bound - 1}, {274877906943750001, 4, bound},
	} {
		for _, at := range []api.Time{0, 1, 12345, last - c.since} {
			if at+c.since > last {
				continue
			}
			for _, disp := range []api.Time{0, 1, 77, most} {
				f := filterOf(t, sampleOf(4, 6, disp, at))
				checkBest(t, f, at+c.since, c.ppm, sampleOf(4, 6, disp+c.aged, at))
				checkJitter(t, f, at+c.since, c.ppm, 0, min(3+disp+c.aged, bound)/2)
			}
		}
	}
}

// Each sample ages by its own At; the best one's At is told as it was.
func TestAgeOfAnOlderBest(t *testing.T) {
	f := filterOf(t, sampleOf(1, 0, 5, 1000), sampleOf(2, 40, 5, 5000), sampleOf(3, 50, 5, 9000))
	checkBest(t, f, 9000, 0, sampleOf(1, 0, 5, 1000))
	checkBest(t, f, 9000, 1000, sampleOf(1, 0, 13, 1000))
	checkJitter(t, f, 9000, 1000, 2, 13/2+29/4+30/8)
	checkBest(t, f, 10001, 1000, sampleOf(1, 0, 15, 1000))
	checkJitter(t, f, 10001, 1000, 2, 15/2+31/4+32/8)
}

// Its distance: half of Delay, rounded down, and Disp.
func TestHalfOfAnOddDelay(t *testing.T) {
	checkBest(t, filterOf(t, sampleOf(1, 10, 0, 1), sampleOf(2, 11, 0, 2)), 2, 0, sampleOf(2, 11, 0, 2))
	checkBest(t, filterOf(t, sampleOf(1, 11, 0, 1), sampleOf(2, 10, 0, 2)), 2, 0, sampleOf(2, 10, 0, 2))
	checkBest(t, filterOf(t, sampleOf(1, 11, 0, 1), sampleOf(2, 12, 0, 2)), 2, 0, sampleOf(1, 11, 0, 1))
	checkBest(t, filterOf(t, sampleOf(1, 1, 0, 1), sampleOf(2, 0, 0, 2)), 2, 0, sampleOf(2, 0, 0, 2))
	checkBest(t, filterOf(t, sampleOf(1, 1, 0, 1), sampleOf(2, 0, 1, 2)), 2, 0, sampleOf(1, 1, 0, 1))
	checkBest(t, filterOf(t, sampleOf(1, 3, 0, 1), sampleOf(2, 0, 1, 2)), 2, 0, sampleOf(2, 0, 1, 2))
	checkBest(t, filterOf(t, sampleOf(1, 0, 1, 1), sampleOf(2, 3, 0, 2)), 2, 0, sampleOf(2, 3, 0, 2))
	checkBest(t, filterOf(t, sampleOf(1, most-1, 0, 1), sampleOf(2, 0, most/2, 2)), 2, 0, sampleOf(1, most-1, 0, 1))
	checkBest(t, filterOf(t, sampleOf(1, most-2, 0, 1), sampleOf(2, most-1, 0, 2)), 2, 0, sampleOf(2, most-1, 0, 2))
}

// Neither Delay nor Disp alone makes a sample the best one, and the Offset nothing.
func TestBestByTheDistance(t *testing.T) {
	f := filterOf(t, sampleOf(-most, 0, 21, 1), sampleOf(most, 40, 0, 2), sampleOf(0, 20, 9, 3), sampleOf(0, 2, 20, 4))
	checkBest(t, f, 4, 0, sampleOf(0, 20, 9, 3))
	checkJitter(t, f, 4, 0, (most+most+2)/3, 19/2+20/4+21/8+21/16)
	g := filterOf(t, sampleOf(-most, 0, 18, 1), sampleOf(most, 40, 0, 2), sampleOf(0, 20, 9, 3), sampleOf(0, 2, 20, 4))
	checkBest(t, g, 4, 0, sampleOf(-most, 0, 18, 1))
	h := filterOf(t, sampleOf(-most, 0, 21, 1), sampleOf(most, 36, 0, 2), sampleOf(0, 20, 9, 3), sampleOf(0, 2, 20, 4))
	checkBest(t, h, 4, 0, sampleOf(most, 36, 0, 2))
}

// P14.4: of each place among one to eight samples.
func TestBestAtEachPlace(t *testing.T) {
	for count := 1; count <= 8; count++ {
		for low := range count {
			f := New()
			for i := range count {
				s := sampleOf(api.Time(i), 50, api.Time(100+(i*5)%8), api.Time(i))
				if i == low {
					s.Disp = 99
				}
				add(t, f, s, api.OK)
			}
			checkBest(t, f, api.Time(count), 0, sampleOf(api.Time(low), 50, 99, api.Time(low)))
		}
	}
}

// Of samples of one distance the newest is the best, wherever they stand.
func TestBestOfOneDistance(t *testing.T) {
	for count := 1; count <= 8; count++ {
		for which := 1; which < 1<<count; which++ {
			f, newest := New(), api.Sample{}
			for i := range count {
				s := sampleOf(api.Time(i), 100, 100, api.Time(i))
				if which>>i&1 == 1 {
					// In different ways to one distance.
					s.Delay, s.Disp = api.Time(2*i+i%2), api.Time(50-i)
					newest = s
				}
				add(t, f, s, api.OK)
			}
			checkBest(t, f, api.Time(count), 0, newest)
		}
	}
}

// What ages is rounded up for each sample, so that their order changes as now goes on.
func TestOrderChangesAsNowGoesOn(t *testing.T) {
	old, young := sampleOf(1, 0, 0, 0), sampleOf(2, 0, 1, 500)
	f := filterOf(t, old, young)
	for now := api.Time(500); now < 100000; now++ {
		oldAge, youngAge := (now+999)/1000, (now-500+999)/1000
		if oldAge < 1+youngAge {
			checkBest(t, f, now, 1000, sampleOf(1, 0, oldAge, 0))
			checkJitter(t, f, now, 1000, 1, oldAge/2+(1+youngAge)/4)
		} else {
			checkBest(t, f, now, 1000, sampleOf(2, 0, 1+youngAge, 500))
			checkJitter(t, f, now, 1000, 1, (1+youngAge)/2+oldAge/4)
		}
		checkBest(t, f, now, 0, old)
	}
	checkBest(t, f, 500, 1000, sampleOf(2, 0, 1, 500))
	checkBest(t, f, 501, 1000, sampleOf(1, 0, 1, 0))
	checkBest(t, f, 1000, 1000, sampleOf(1, 0, 1, 0))
	checkBest(t, f, 1001, 1000, sampleOf(2, 0, 2, 500))
	checkBest(t, f, 1501, 1000, sampleOf(1, 0, 2, 0))
}

// An older sample ages no more than a younger one but by what lies between them, which is more at another rate.
func TestOrderChangesWithTheRate(t *testing.T) {
	f := filterOf(t, sampleOf(1, 0, 0, 0), sampleOf(2, 100, 0, 1000000), sampleOf(3, 300, 0, 2000000))
	for _, now := range []api.Time{2000000, 3000000, 1000000000} {
		for ppm := range 1001 {
			aged := func(at api.Time) api.Time { return (now - at) / 1000000 * api.Time(ppm) }
			switch {
			case ppm < 50:
				checkBest(t, f, now, ppm, sampleOf(1, 0, aged(0), 0))
			case ppm < 100:
				checkBest(t, f, now, ppm, sampleOf(2, 100, aged(1000000), 1000000))
			default:
				checkBest(t, f, now, ppm, sampleOf(3, 300, aged(2000000), 2000000))
			}
		}
	}
}

// A distance is at most 2^40, so that samples above it are of one distance, and the newest is the best.
func TestDistancesThatWouldComeToMore(t *testing.T) {
	// At this count the first one has aged 2^40 - 3, the second one half as much.
	const now = 1000 * (bound - 3)
	for _, c := range []struct {
		delay, disp api.Time
		distance    api.Time
	}{{0, 0, bound - 3}, {0, 2, bound - 1}, {4, 0, bound - 1}, {5, 0, bound - 1}, {0, 3, bound}, {6, 0, bound}, {7, 0, bound}, {2, 2, bound}, {0, 4, bound}, {8, 0, bound}, {most, most, bound}} {
		f := filterOf(t, sampleOf(1, c.delay, c.disp, 0))
		checkBest(t, f, now, 1000, sampleOf(1, c.delay, c.disp+bound-3, 0))
		checkJitter(t, f, now, 1000, 0, c.distance/2)
		checkBest(t, f, now, 0, sampleOf(1, c.delay, c.disp, 0))
		// Beside one that has aged as much, and has 2^40 - 1, 2^40 and more.
		for _, disp := range []api.Time{2, 3, 4, most} {
			f := filterOf(t, sampleOf(1, c.delay, c.disp, 0), sampleOf(2, 0, disp, 1))
			best := sampleOf(2, 0, disp+bound-3, 1)
			if c.distance < min(bound, disp+bound-3) {
				best = sampleOf(1, c.delay, c.disp+bound-3, 0)
			}
			low, high := min(c.distance, disp+bound-3), min(max(c.distance, disp+bound-3), bound)
			checkBest(t, f, now, 1000, best)
			checkJitter(t, f, now, 1000, 1, low/2+high/4)
		}
	}
}

func TestAgesThatWouldComeToMore(t *testing.T) {
	f := New()
	for i := range api.Time(8) {
		add(t, f, sampleOf(i*i, 100*i, 1+i, i), api.OK)
	}
	checkBest(t, f, 7, 0, sampleOf(0, 0, 1, 0))
	checkBest(t, f, 1000000, 1000, sampleOf(0, 0, 1001, 0))
	// All distances are 2^40 there, however long the samples were on their way.
	for _, now := range []api.Time{last, last / 2, 2000 * bound} {
		checkBest(t, f, now, 1000, sampleOf(49, 700, 8+bound, 7))
		checkJitter(t, f, now, 1000, (49+48+45+40+33+24+13+6)/7, bound-bound/256)
	}
	checkBest(t, f, last, 0, sampleOf(0, 0, 1, 0))
}
