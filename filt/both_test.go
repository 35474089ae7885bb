package filt

import (
	"math/big"
	"math/rand"
	"sort"
	"sync"
	"testing"

	"sundial/api"
)

// history is all that a filter took since it was cleared, the oldest first: the chapter's words, said in another way.
type history []api.Sample

// last8 is what a filter keeps of it, the newest first.
func (h history) last8() []api.Sample {
	var kept []api.Sample
	for i := len(h) - 1; i >= 0 && len(kept) < 8; i-- {
		kept = append(kept, h[i])
	}
	return kept
}

// ratio is a/b rounded down, or up.
func ratio(a, b *big.Int, up bool) api.Time {
	quo, rem := new(big.Int).DivMod(a, b, new(big.Int))
	if up && rem.Sign() != 0 {
		quo.Add(quo, big.NewInt(1))
	}
	return api.Time(quo.Int64())
}

func agedBy(s api.Sample, now api.Time, ppm int) api.Time {
	product := new(big.Int).Mul(big.NewInt(int64(now-s.At)), big.NewInt(int64(ppm)))
	if aged := ratio(product, big.NewInt(1000000), true); aged < bound {
		return aged
	}
	return bound
}

func farness(s api.Sample, now api.Time, ppm int) api.Time {
	sum := ratio(big.NewInt(int64(s.Delay)), big.NewInt(2), false) + s.Disp + agedBy(s, now, ppm)
	if sum > bound {
		return bound
	}
	return sum
}

func (h history) add(s api.Sample) (history, api.Errno) {
	inside := func(x, lo, hi api.Time) bool { return x >= lo && x <= hi }
	if !inside(s.Offset, -most, most) || !inside(s.Delay, 0, most) || !inside(s.Disp, 0, most) || !inside(s.At, 0, last) {
		return h, api.ErrShape
	}
	for _, other := range h.last8() {
		if other.At >= s.At {
			return h, api.ErrOrder
		}
	}
	return append(h, s), api.OK
}

// answers are what Best and Jitter tell.
type answers struct {
	best           api.Sample
	jitter, spread api.Time
	errno          api.Errno
}

func (h history) ask(now api.Time, ppm int) answers {
	kept := h.last8()
	if len(kept) == 0 {
		return answers{errno: api.ErrNone}
	}
	if now < kept[0].At || now > last || ppm < 0 || ppm > 1000 {
		return answers{errno: api.ErrRange}
	}
	// Stable, so that the newest of one distance comes first.
	sort.SliceStable(kept, func(i, j int) bool { return farness(kept[i], now, ppm) < farness(kept[j], now, ppm) })
	a := answers{best: kept[0]}
	a.best.Disp += agedBy(kept[0], now, ppm)
	sum, part := new(big.Int), big.NewInt(1)
	for _, s := range kept {
		part.Mul(part, big.NewInt(2))
		a.spread += ratio(big.NewInt(int64(farness(s, now, ppm))), part, false)
		sum.Add(sum, new(big.Int).Abs(big.NewInt(int64(s.Offset-kept[0].Offset))))
	}
	if len(kept) > 1 {
		a.jitter = ratio(sum, big.NewInt(int64(len(kept)-1)), true)
	}
	return a
}

// checkAsk holds both questions against a history, asked twice in turn.
func checkAsk(t *testing.T, f *Filter, h history, now api.Time, ppm int) {
	t.Helper()
	want, was := h.ask(now, ppm), *f
	for range 2 {
		var got answers
		var errno api.Errno
		got.best, got.errno = f.Best(now, ppm)
		got.jitter, got.spread, errno = f.Jitter(now, ppm)
		if got != want || errno != want.errno {
			fail(t, "of %v at %v with %v: %v, %v; want %v", h.last8(), now, ppm, got, errno, want)
		}
		checkCount(t, f, len(h.last8()))
	}
	checkSame(t, f, was)
}

// upTo is a random number from 0 to m, of any size alike.
func upTo(r *rand.Rand, m api.Time) api.Time {
	return api.Time(r.Int63n(int64(m>>r.Intn(59)) + 1))
}

// someSample is mostly a right one, mostly above at.
func someSample(r *rand.Rand, at, step api.Time) api.Sample {
	s := sampleOf(upTo(r, most)-upTo(r, most), upTo(r, most), upTo(r, most), at+upTo(r, step))
	switch r.Intn(40) {
	case 0:
		s.Offset = []api.Time{most, most + 1, -most, -most - 1}[r.Intn(4)]
	case 1:
		s.Delay = []api.Time{most, most + 1, 0, -1}[r.Intn(4)]
	case 2:
		s.Disp = []api.Time{most, most + 1, 0, -1}[r.Intn(4)]
	case 3:
		s.At = []api.Time{0, -1, last, last + 1}[r.Intn(4)]
	case 4:
		s.At = at - upTo(r, step)
	}
	return s
}

// P14.1 to P14.4, over many calls one behind the other.
func TestRandomCalls(t *testing.T) {
	for seed := range int64(4000) {
		r := rand.New(rand.NewSource(seed))
		f, h := New(), history(nil)
		step := api.Time(1) << r.Intn(56)
		for range 60 {
			at := api.Time(0)
			if len(h) > 0 {
				at = h[len(h)-1].At
			}
			switch r.Intn(8) {
			case 0, 1, 2, 3:
				s := someSample(r, at, step)
				if r.Intn(3) == 0 && len(h) > 0 {
					// Like another one, so that distances are often the same.
					s.Delay, s.Disp = h[len(h)-1].Delay, h[len(h)-1].Disp
				}
				var errno api.Errno
				was := *f
				h, errno = h.add(s)
				add(t, f, s, errno)
				if errno != api.OK {
					checkSame(t, f, was)
				}
			case 4:
				if r.Intn(6) == 0 {
					h = nil
					drop(t, f, api.OK)
				}
			case 5:
				checkAsk(t, f, h, at+upTo(r, step)-api.Time(r.Intn(3)), r.Intn(1003)-1)
			default:
				checkAsk(t, f, h, at+upTo(r, last-at), r.Intn(1001))
			}
		}
	}
}

// P14.4: the best one's distance is no greater than any other's.
func TestBestIsNoFartherThanAnyOther(t *testing.T) {
	r := rand.New(rand.NewSource(144))
	for range 30000 {
		f, h := New(), history(nil)
		at, step := api.Time(0), api.Time(1)<<r.Intn(54)
		for range 1 + r.Intn(12) {
			at += 1 + upTo(r, step)
			s := sampleOf(upTo(r, most), upTo(r, most), upTo(r, most), at)
			add(t, f, s, api.OK)
			h = append(h, s)
		}
		now, ppm := at+upTo(r, last-at), r.Intn(1001)
		b, errno := f.Best(now, ppm)
		if errno != api.OK {
			fail(t, "Best = %v", errno)
		}
		for _, s := range h.last8() {
			if min(b.Delay/2+b.Disp, bound) > farness(s, now, ppm) {
				fail(t, "of %v at %v with %v: %v isn't the best", h.last8(), now, ppm, b)
			}
		}
	}
}

// Every short list of a few samples, with the questions at the edges.
func TestEveryShortListOfSamples(t *testing.T) {
	parts := []struct{ offset, delay, disp api.Time }{{0, 0, 0}, {-5, 0, 1}, {7, 3, 0}, {1, 2, 1}, {most, most, most}}
	var grow func(f Filter, h history)
	grow = func(f Filter, h history) {
		for _, now := range []api.Time{0, api.Time(600*len(h)) - 601, api.Time(600 * len(h)), api.Time(600*len(h)) + 401, last, last + 1} {
			for _, ppm := range []int{-1, 0, 1, 1000, 1001} {
				checkAsk(t, &f, h, now, ppm)
			}
		}
		if len(h) == 4 {
			return
		}
		for _, p := range parts {
			g := f
			s := sampleOf(p.offset, p.delay, p.disp, api.Time(600*len(h)))
			add(t, &g, s, api.OK)
			grow(g, append(h[:len(h):len(h)], s))
		}
	}
	grow(Filter{}, nil)
}

// Two filters have nothing to do with one another.
func TestTwoFilters(t *testing.T) {
	one, two := New(), New()
	var first, second history
	for i := range api.Time(20) {
		s := sampleOf(i, 30-i, i%3, 10*i)
		add(t, one, s, api.OK)
		first = append(first, s)
		s = sampleOf(-i, i, i%5, 1000-10*(20-i))
		add(t, two, s, api.OK)
		second = append(second, s)
		checkAsk(t, one, first, 1000, 1000)
		checkAsk(t, two, second, 1000, 1000)
	}
	drop(t, one, api.OK)
	checkAsk(t, one, nil, 1000, 1000)
	checkAsk(t, two, second, 1000, 1000)
	// One that was copied goes its own way, too.
	three := *two
	add(t, two, sampleOf(0, 0, 0, 2000), api.OK)
	checkAsk(t, &three, second, 2000, 10)
	drop(t, two, api.OK)
	checkAsk(t, &three, second, 2000, 10)
}

func TestFiltersSideBySide(t *testing.T) {
	var all sync.WaitGroup
	for i := range 8 {
		all.Go(func() {
			for seed := range int64(100) {
				r := rand.New(rand.NewSource(1000*int64(i) + seed))
				f, h := New(), history(nil)
				for n := range api.Time(12) {
					s := sampleOf(upTo(r, most), upTo(r, most), upTo(r, most), n)
					h = append(h, s)
					if f.Add(s) != api.OK {
						t.Error("Add is refused")
					}
					want := h.ask(1000, 500)
					if b, errno := f.Best(1000, 500); b != want.best || errno != api.OK {
						t.Errorf("Best = %v, %v; want %v", b, errno, want.best)
					}
				}
			}
		})
	}
	all.Wait()
}

func FuzzFilter(f *testing.F) {
	f.Add(int64(5), int64(20), int64(1), int64(100), int64(9), int64(10), int64(1), int64(200), int64(1000000200), 1000)
	f.Add(int64(1<<36), int64(1<<36), int64(1<<36), int64(0), int64(-1<<36), int64(1), int64(0), int64(1<<58), int64(1<<58), 0)
	f.Fuzz(func(t *testing.T, offset1, delay1, disp1, at1, offset2, delay2, disp2, at2, now int64, ppm int) {
		filter, h := New(), history(nil)
		for i := range api.Time(6) {
			for _, s := range []api.Sample{
				sampleOf(api.Time(offset1), api.Time(delay1), api.Time(disp1)-i, api.Time(at1)+i),
				sampleOf(api.Time(offset2), api.Time(delay2)+i, api.Time(disp2), api.Time(at2)+i),
			} {
				var errno api.Errno
				h, errno = h.add(s)
				add(t, filter, s, errno)
				checkAsk(t, filter, h, api.Time(now), ppm)
			}
		}
	})
}
