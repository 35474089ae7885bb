package filt

import (
	"testing"

	"sundial/api"
)

// offsetsOf is a filter of samples with these Offsets, of which the one with the number low is the best.
func offsetsOf(t *testing.T, low int, offsets ...api.Time) *Filter {
	t.Helper()
	f := New()
	for i, offset := range offsets {
		s := sampleOf(offset, 0, 1, api.Time(i))
		if i == low {
			s.Disp = 0
		}
		add(t, f, s, api.OK)
	}
	return f
}

// P14.3
func TestJitterOfOne(t *testing.T) {
	for _, offset := range []api.Time{0, 1, -1, most, -most} {
		f := filterOf(t, sampleOf(offset, 0, 0, 0))
		for _, now := range []api.Time{0, 1, last} {
			checkJitter(t, f, now, 0, 0, 0)
		}
	}
}

func TestJitterOfTwo(t *testing.T) {
	for _, a := range []api.Time{0, 1, -1, 5, -5, most - 1, most, 1 - most, -most} {
		for _, b := range []api.Time{0, 1, -1, 5, -5, most - 1, most, 1 - most, -most} {
			checkJitter(t, offsetsOf(t, 0, a, b), 1, 0, max(a-b, b-a), 0)
			checkJitter(t, offsetsOf(t, 1, a, b), 1, 0, max(a-b, b-a), 0)
		}
	}
}

// The sum is divided evenly, or rounded up; offsets below the best one's count like those above.
func TestJitterOfMore(t *testing.T) {
	for _, c := range []struct {
		low     int
		offsets []api.Time
		want    api.Time
	}{
		{0, []api.Time{10, 10, 10}, 0}, {0, []api.Time{10, 10, 11}, 1}, {0, []api.Time{10, 11, 11}, 1}, {0, []api.Time{10, 9, 11}, 1}, {0, []api.Time{10, 9, 12}, 2}, {0, []api.Time{10, 8, 12}, 2},
		{1, []api.Time{0, 5, 7}, 4}, {2, []api.Time{0, 5, 7}, 5}, {1, []api.Time{0, -5, 7}, 9}, {1, []api.Time{0, -5, 8}, 9}, {1, []api.Time{0, -5, 6}, 8},
		{0, []api.Time{0, 1, 1, 1}, 1}, {0, []api.Time{0, 1, 1, 2}, 2}, {0, []api.Time{0, 2, 2, 2}, 2}, {0, []api.Time{0, -2, 2, -2}, 2}, {0, []api.Time{0, 0, 0, 1}, 1},
		{3, []api.Time{-7, -8, -9, -10}, 2}, {0, []api.Time{-7, -8, -9, -10}, 2}, {1, []api.Time{-7, -8, -9, -10}, 2}, {1, []api.Time{-7, -8, -9, -11}, 2}, {1, []api.Time{-7, -8, -9, -12}, 2}, {1, []api.Time{-7, -8, -9, -13}, 3},
		{0, []api.Time{0, 1, 2, 3, 4, 5, 6, 7}, 4}, {7, []api.Time{0, 1, 2, 3, 4, 5, 6, 7}, 4}, {3, []api.Time{0, 1, 2, 3, 4, 5, 6, 7}, 3}, {4, []api.Time{0, 1, 2, 3, 4, 5, 6, 12}, 3}, {4, []api.Time{0, 1, 2, 3, 4, 5, 6, 13}, 4},
		{0, []api.Time{-most, most, most, most, most, most, most, most}, 2 * most}, {7, []api.Time{-most, -most, -most, -most, -most, -most, -most, most}, 2 * most}, {0, []api.Time{-most, most, most, most, most, most, most, most - 1}, 2 * most}, {0, []api.Time{-most, most, most, most, most, most, most, most - 7}, 2*most - 1},
	} {
		f := offsetsOf(t, c.low, c.offsets...)
		j, _, errno := f.Jitter(100, 0)
		if j != c.want || errno != api.OK {
			fail(t, "the jitter of %v about the number %v is %v, %v; want %v", c.offsets, c.low, j, errno, c.want)
		}
	}
}

// The jitter hangs on which one is the best at now, with that rate.
func TestJitterAboutTheBest(t *testing.T) {
	f := filterOf(t, sampleOf(0, 0, 0, 0), sampleOf(10, 0, 1, 500), sampleOf(70, 0, 50, 600))
	for now, want := range map[api.Time]api.Time{600: 40, 1000: 40, 1001: 35, 1500: 35, 1501: 40, 2000: 40, 2001: 35} {
		if j, _, errno := f.Jitter(now, 1000); j != want || errno != api.OK {
			fail(t, "Jitter(%v, 1000) = %v, %v; want %v", now, j, errno, want)
		}
		if j, _, errno := f.Jitter(now, 0); j != 40 || errno != api.OK {
			fail(t, "Jitter(%v, 0) = %v, %v", now, j, errno)
		}
	}
	// Of one distance: about the newest.
	g := filterOf(t, sampleOf(0, 0, 7, 0), sampleOf(10, 2, 6, 1), sampleOf(100, 3, 6, 2))
	checkJitter(t, g, 2, 0, 95, 3+1+0)
}

// distancesOf is a filter of samples with these Disps, and no Delay.
func distancesOf(t *testing.T, disps ...api.Time) *Filter {
	t.Helper()
	f := New()
	for i, disp := range disps {
		add(t, f, sampleOf(0, 0, disp, api.Time(i)), api.OK)
	}
	return f
}

// P14.3: each part of the spread is rounded down by itself, the sum isn't.
func TestSpread(t *testing.T) {
	for _, c := range []struct {
		disps []api.Time
		want  api.Time
	}{
		{[]api.Time{0}, 0}, {[]api.Time{1}, 0}, {[]api.Time{2}, 1}, {[]api.Time{3}, 1}, {[]api.Time{most}, most / 2}, {[]api.Time{most - 1}, most/2 - 1},
		{[]api.Time{1, 2}, 0}, {[]api.Time{1, 3}, 0}, {[]api.Time{3, 3}, 1}, {[]api.Time{1, 4}, 1}, {[]api.Time{2, 4}, 2}, {[]api.Time{3, 7}, 2}, {[]api.Time{4, 8}, 4},
		{[]api.Time{3, 7, 15}, 3}, {[]api.Time{2, 4, 8}, 3}, {[]api.Time{1, 3, 7}, 0}, {[]api.Time{1, 3, 8}, 1},
		{[]api.Time{100, 100, 100, 100, 100, 100, 100}, 50 + 25 + 12 + 6 + 3 + 1}, {[]api.Time{2, 4, 8, 16, 32, 64, 128}, 7}, {[]api.Time{1, 3, 7, 15, 31, 63, 127}, 0},
		{[]api.Time{2, 4, 8, 16, 32, 64, 128, 256}, 8}, {[]api.Time{1, 3, 7, 15, 31, 63, 127, 255}, 0}, {[]api.Time{3, 7, 15, 31, 63, 127, 255, 511}, 8}, {[]api.Time{1, 3, 7, 15, 31, 63, 127, 256}, 1}, {[]api.Time{1, 3, 7, 15, 31, 63, 128, 255}, 1},
		{[]api.Time{most, most, most, most, most, most, most, most}, most - most/256}, {[]api.Time{0, 0, 0, 0, 0, 0, 0, most}, most / 256}, {[]api.Time{0, 0, 0, 0, 0, 0, most, most}, 3 * most / 256},
	} {
		checkJitter(t, distancesOf(t, c.disps...), 10, 0, 0, c.want)
	}
}

// The spread is that of the distances, rising, whatever order the samples came in.
func TestSpreadInEveryOrder(t *testing.T) {
	for _, disps := range [][]api.Time{{2, 9}, {2, 9, 17}, {40, 2, 9, 77, 8}, {5, 5, 90, 0, 90, 7}, {300, 20, 1000, 9, 7, 255, 64}} {
		sorted := append([]api.Time{}, disps...)
		for i := range sorted {
			for j := range i {
				sorted[j], sorted[i] = min(sorted[i], sorted[j]), max(sorted[i], sorted[j])
			}
		}
		want, part := api.Time(0), api.Time(2)
		for _, d := range sorted {
			want += d / part
			part *= 2
		}
		everyOrder(disps, 0, func(disps []api.Time) { checkJitter(t, distancesOf(t, disps...), 10, 0, 0, want) })
	}
}

// everyOrder hands on the list from the number n on in all orders, behind those ahead.
func everyOrder(l []api.Time, n int, with func(l []api.Time)) {
	if n == len(l) {
		with(l)
	}
	for i := n; i < len(l); i++ {
		l[n], l[i] = l[i], l[n]
		everyOrder(l, n+1, with)
		l[n], l[i] = l[i], l[n]
	}
}

// The distances in it are aged, each by its own At, and have half of Delay.
func TestSpreadOfAgedSamples(t *testing.T) {
	f := filterOf(t, sampleOf(0, 7, 2, 0), sampleOf(0, 5, 40, 10000), sampleOf(0, 0, 3, 20000))
	checkJitter(t, f, 20000, 0, 0, 3/2+5/4+42/8)
	checkJitter(t, f, 20000, 1000, 0, 3/2+25/4+52/8)
	checkJitter(t, f, 20001, 1000, 0, 4/2+26/4+53/8)
	checkJitter(t, f, 29000, 1000, 0, 12/2+34/4+61/8)
	checkJitter(t, f, 29000, 999, 0, 12/2+34/4+61/8)
	checkJitter(t, f, 30000, 100, 0, 4/2+8/4+44/8)
}
