package filt

import (
	"fmt"
	"math"
	"testing"

	"sundial/api"
)

// The edges that the chapter names.
const (
	most  = 1 << 36
	last  = 1 << 58
	bound = 1 << 40
)

// sampleOf takes a sample's parts in their order.
func sampleOf(offset, delay, disp, at api.Time) api.Sample {
	return api.Sample{Offset: offset, Delay: delay, Disp: disp, At: at}
}

// filterOf took all of the list.
func filterOf(t *testing.T, list ...api.Sample) *Filter {
	t.Helper()
	f := New()
	for _, s := range list {
		add(t, f, s, api.OK)
	}
	return f
}

// fail tells what is wrong, each thing of it cut where it gets long.
func fail(t *testing.T, form string, things ...any) {
	t.Helper()
	for i, thing := range things {
		things[i] = fmt.Sprintf("%.900s", fmt.Sprint(thing))
	}
	t.Fatalf(form, things...)
}

func add(t *testing.T, f *Filter, s api.Sample, want api.Errno) {
	t.Helper()
	if errno := f.Add(s); errno != want {
		fail(t, "Add of %v = %v; want %v", s, errno, want)
	}
}

func checkCount(t *testing.T, f *Filter, want int) {
	t.Helper()
	if n := f.Count(); n != want {
		fail(t, "Count = %v; want %v", n, want)
	}
}

func drop(t *testing.T, f *Filter, want api.Errno) {
	t.Helper()
	if errno := f.Clear(); errno != want {
		fail(t, "Clear = %v; want %v", errno, want)
	}
}

func checkBest(t *testing.T, f *Filter, now api.Time, ppm int, want api.Sample) {
	t.Helper()
	if s, errno := f.Best(now, ppm); s != want || errno != api.OK {
		fail(t, "Best(%v, %v) = %v, %v; want %v", now, ppm, s, errno, want)
	}
}

func checkJitter(t *testing.T, f *Filter, now api.Time, ppm int, jitter, spread api.Time) {
	t.Helper()
	if j, s, errno := f.Jitter(now, ppm); j != jitter || s != spread || errno != api.OK {
		fail(t, "Jitter(%v, %v) = %v, %v, %v; want %v, %v", now, ppm, j, s, errno, jitter, spread)
	}
}

// checkRefusal holds both questions at now against an error, and what stands beside it against nothing.
func checkRefusal(t *testing.T, f *Filter, now api.Time, ppm int, want api.Errno) {
	t.Helper()
	if s, errno := f.Best(now, ppm); s != (api.Sample{}) || errno != want {
		fail(t, "Best(%v, %v) = %v, %v; want %v", now, ppm, s, errno, want)
	}
	if j, s, errno := f.Jitter(now, ppm); j != 0 || s != 0 || errno != want {
		fail(t, "Jitter(%v, %v) = %v, %v, %v; want %v", now, ppm, j, s, errno, want)
	}
}

// instants and rates are what may be asked with, and what may not.
func instants() []api.Time {
	return []api.Time{0, 1, 100, last - 1, last, last + 1, -1, -last, api.Far, math.MinInt64, math.MaxInt64}
}

func rates() []int {
	return []int{0, 1, 15, 999, 1000, 1001, 1000000, -1, -1000, math.MinInt64, math.MaxInt64}
}

// wrongSamples are those that aren't right for one part, for another one, or for all.
func wrongSamples() []api.Sample {
	return []api.Sample{
		sampleOf(most+1, 0, 0, 500), sampleOf(-most-1, 0, 0, 500), sampleOf(math.MaxInt64, 0, 0, 500), sampleOf(math.MinInt64, 0, 0, 500), sampleOf(-most<<20, 5, 5, 500),
		sampleOf(0, -1, 0, 500), sampleOf(0, most+1, 0, 500), sampleOf(0, -most, 0, 500), sampleOf(0, math.MaxInt64, 0, 500), sampleOf(0, math.MinInt64, 0, 500),
		sampleOf(0, 0, -1, 500), sampleOf(0, 0, most+1, 500), sampleOf(0, 0, -most, 500), sampleOf(0, 0, math.MaxInt64, 500), sampleOf(0, 0, math.MinInt64, 500),
		sampleOf(0, 0, 0, -1), sampleOf(0, 0, 0, last+1), sampleOf(0, 0, 0, -last), sampleOf(0, 0, 0, api.Far), sampleOf(0, 0, 0, math.MaxInt64), sampleOf(0, 0, 0, math.MinInt64),
		sampleOf(most, most, most, last+1), sampleOf(-most, 0, 0, -1), sampleOf(math.MinInt64, math.MinInt64, math.MinInt64, math.MinInt64),
	}
}

// P14.1
func TestNewFilter(t *testing.T) {
	for _, f := range []*Filter{New(), {}, new(Filter)} {
		if f == nil {
			t.Fatal("New answers none")
		}
		for range 2 {
			checkCount(t, f, 0)
			for _, now := range instants() {
				for _, ppm := range rates() {
					// That there is no sample is told ahead of numbers out of their ranges.
					checkRefusal(t, f, now, ppm, api.ErrNone)
				}
			}
			drop(t, f, api.OK)
		}
		add(t, f, sampleOf(3, 4, 5, 6), api.OK)
		checkCount(t, f, 1)
		checkBest(t, f, 6, 0, sampleOf(3, 4, 5, 6))
	}
}

func TestNilFilter(t *testing.T) {
	var f *Filter
	for range 2 {
		add(t, f, sampleOf(3, 4, 5, 6), api.ErrNil)
		for _, s := range wrongSamples() {
			add(t, f, s, api.ErrNil)
		}
		checkCount(t, f, 0)
		drop(t, f, api.ErrNil)
		for _, now := range instants() {
			for _, ppm := range rates() {
				checkRefusal(t, f, now, ppm, api.ErrNil)
			}
		}
	}
}

// P14.2: each part at its edges, and one beside them.
func TestAddOfSamplesAtTheEdges(t *testing.T) {
	for _, offset := range []api.Time{-most, 1 - most, -1, 0, 1, most - 1, most} {
		for _, delay := range []api.Time{0, 1, most - 1, most} {
			for _, disp := range []api.Time{0, 1, most - 1, most} {
				for _, at := range []api.Time{0, 1, last - 1, last} {
					s := sampleOf(offset, delay, disp, at)
					f := filterOf(t, s)
					checkCount(t, f, 1)
					checkBest(t, f, at, 0, s)
					checkJitter(t, f, at, 0, 0, (delay/2+disp)/2)
				}
			}
		}
	}
}

func TestAddOfWrongSamples(t *testing.T) {
	for _, s := range wrongSamples() {
		for count := range 10 {
			f := New()
			for i := range count {
				add(t, f, sampleOf(api.Time(i), 1, 1, api.Time(100+i)), api.OK)
			}
			was := *f
			add(t, f, s, api.ErrShape)
			if s.At == 500 {
				// Out of order, too: that it isn't right is told first.
				late := s
				late.At = 100
				add(t, f, late, api.ErrShape)
			}
			checkSame(t, f, was)
		}
	}
}

// checkSame holds a filter against what it was, by its memory and by what it answers.
func checkSame(t *testing.T, f *Filter, was Filter) {
	t.Helper()
	if *f != was {
		fail(t, "%v has become %v", was, *f)
	}
}

// P14.2: an At must be above that of the newest one, whatever the filter has dropped.
func TestAddOutOfOrder(t *testing.T) {
	for _, count := range []int{1, 2, 7, 8, 9, 30} {
		for _, step := range []api.Time{1, 7, 1 << 50} {
			f := New()
			for i := range api.Time(count) {
				add(t, f, sampleOf(-i, i, i, 5+i*step), api.OK)
			}
			newest := 5 + api.Time(count-1)*step
			oldest := newest - api.Time(min(count, 8)-1)*step
			was := *f
			for _, at := range []api.Time{newest, newest - 1, oldest + 1, oldest, oldest - 1, 5, 1, 0} {
				if at <= newest {
					add(t, f, sampleOf(1, 0, 0, at), api.ErrOrder)
				}
			}
			checkSame(t, f, was)
			add(t, f, sampleOf(9, 0, 0, newest+1), api.OK)
			add(t, f, sampleOf(9, 0, 0, newest+1), api.ErrOrder)
			add(t, f, sampleOf(8, 0, 0, newest), api.ErrOrder)
			checkCount(t, f, min(count+1, 8))
			checkBest(t, f, newest+1, 0, sampleOf(9, 0, 0, newest+1))
		}
	}
}

func TestAddAtTheLastCount(t *testing.T) {
	f := filterOf(t, sampleOf(1, 2, 3, last-1), sampleOf(4, 2, 2, last))
	checkBest(t, f, last, 1000, sampleOf(4, 2, 2, last))
	add(t, f, sampleOf(5, 0, 0, last), api.ErrOrder)
	add(t, f, sampleOf(5, 0, 0, last-1), api.ErrOrder)
	add(t, f, sampleOf(5, 0, 0, last+1), api.ErrShape)
	checkCount(t, f, 2)
}

// P14.2: of more than eight the oldest is dropped, and no other one.
func TestTheLastEightAreKept(t *testing.T) {
	for count := 1; count < 40; count++ {
		for low := range count {
			// The one with the number low is the best as long as it is kept, else the newest.
			f := New()
			for i := range count {
				s := sampleOf(api.Time(i), 100, 0, api.Time(10*i))
				if i == low {
					s.Delay = 10
				}
				add(t, f, s, api.OK)
				checkCount(t, f, min(i+1, 8))
			}
			want := sampleOf(api.Time(count-1), 100, 0, api.Time(10*(count-1)))
			if count-low <= 8 {
				want = sampleOf(api.Time(low), 10, 0, api.Time(10*low))
			}
			checkBest(t, f, api.Time(10*(count-1)), 0, want)
		}
	}
}

func TestOffsetsOfDroppedSamplesCountForNothing(t *testing.T) {
	f := filterOf(t, sampleOf(most, 0, 0, 0))
	for i := range api.Time(7) {
		add(t, f, sampleOf(0, 10, 10, 1+i), api.OK)
		checkBest(t, f, 1+i, 0, sampleOf(most, 0, 0, 0))
		checkJitter(t, f, 1+i, 0, most, []api.Time{3, 4, 4, 4, 4, 4, 4}[i])
	}
	add(t, f, sampleOf(0, 10, 10, 8), api.OK)
	checkBest(t, f, 8, 0, sampleOf(0, 10, 10, 8))
	checkJitter(t, f, 8, 0, 0, 7+3+1)
}

// P14.2: a filter that was cleared is as a new one, also for the order of Ats.
func TestClear(t *testing.T) {
	for _, count := range []int{0, 1, 2, 7, 8, 9, 20} {
		f := New()
		for i := range api.Time(count) {
			add(t, f, sampleOf(i, 0, 0, last-100+i), api.OK)
		}
		drop(t, f, api.OK)
		checkSame(t, f, *New())
		checkCount(t, f, 0)
		checkRefusal(t, f, last, 0, api.ErrNone)
		drop(t, f, api.OK)
		add(t, f, sampleOf(77, 6, 5, 0), api.OK)
		add(t, f, sampleOf(78, 6, 5, 0), api.ErrOrder)
		checkCount(t, f, 1)
		checkBest(t, f, 0, 0, sampleOf(77, 6, 5, 0))
		checkJitter(t, f, 0, 0, 0, 4)
		for i := range api.Time(8) {
			add(t, f, sampleOf(80, 20, 20, 1+i), api.OK)
			checkCount(t, f, min(2+int(i), 8))
		}
		checkJitter(t, f, 8, 0, 0, 15+7+3+1)
	}
}
