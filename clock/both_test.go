package clock

import (
	"encoding/binary"
	"math/big"
	"math/rand"
	"testing"

	"sundial/api"
)

// told is what a clock is told: so many counts behind what it was told ahead of it.
type told struct{ d, offset api.Time }

// book is what the chapter's words make of a clock, in exact fractions. Its kind is one of 'u', 's' and 'p'.
type book struct {
	kind               byte
	base, freq, phase  *big.Rat
	count, since, last api.Time
}

func whole(x api.Time) *big.Rat { return new(big.Rat).SetInt64(int64(x)) }

// down is x, rounded down.
func down(x *big.Rat) *big.Rat {
	// Div rounds down, as a denominator is above 0.
	return new(big.Rat).SetInt(new(big.Int).Div(x.Num(), x.Denom()))
}

func sum(a, b *big.Rat) *big.Rat     { return new(big.Rat).Add(a, b) }
func product(a, b *big.Rat) *big.Rat { return new(big.Rat).Mul(a, b) }

// between brings x to the range from lo to hi.
func between(x, lo, hi *big.Rat) *big.Rat {
	if x.Cmp(lo) < 0 {
		return lo
	}
	if x.Cmp(hi) > 0 {
		return hi
	}
	return x
}

func newBook(raw, base api.Time, freq int) book {
	return book{kind: 'u', base: whole(base), freq: whole(api.Time(freq)), phase: whole(0), count: raw}
}

// reads is what it reads at a count that is in its range.
func (b book) reads(raw api.Time) *big.Rat {
	d := whole(raw - b.count)
	slew := product(d, big.NewRat(1, 2000))
	size := new(big.Rat).Abs(b.phase)
	slew = product(between(slew, whole(0), size), whole(api.Time(b.phase.Sign())))
	byFreq := product(d, product(b.freq, big.NewRat(1, 1000000000)))
	return sum(sum(b.base, d), down(sum(byFreq, slew)))
}

// updated is the book after an update, and how it is taken.
func (b book) updated(raw, offset api.Time) (book, Move) {
	now := b.reads(raw)
	great := offset != min(max(offset, -134217), 134217)
	switch {
	case b.kind != 'u' && !great:
		if counts := raw - b.last; counts >= 1<<20 {
			more := down(product(whole(offset), big.NewRat(62500000, int64(counts))))
			b.freq = between(sum(b.freq, more), whole(-500000), whole(500000))
		}
		b.base, b.phase = now, whole(offset)
		b.kind, b.count, b.last = 's', raw, raw
		return b, Slewed
	case b.kind == 's':
		b.kind, b.since = 'p', raw
		return b, Ignored
	case b.kind == 'p' && raw-b.since < 300<<20:
		return b, Ignored
	}
	b.base, b.phase = between(sum(now, whole(offset)), whole(-1<<61), whole(1<<61)), whole(0)
	b.kind, b.count, b.last = 's', raw, raw
	return b, Stepped
}

// checkBook holds what a clock tells against what the book does, at some counts from its base's on.
func checkBook(t *testing.T, c *Clock, b book, ds ...api.Time) {
	t.Helper()
	for _, d := range ds {
		checkRead(t, c, b.count+d, api.Time(b.reads(b.count+d).Num().Int64()))
	}
	checkState(t, c, int(b.freq.Num().Int64()), b.kind == 'p')
}

// checkTold tells both something; it answers what they have become.
func checkTold(t *testing.T, c Clock, b book, raw, offset api.Time) (Clock, book) {
	t.Helper()
	next, want := b.updated(raw, offset)
	checkUpdate(t, &c, raw, offset, want)
	return c, next
}

// grow tells a clock each list of up to n things that it may be told.
func grow(t *testing.T, c Clock, b book, raw api.Time, n int, ds, offsets []api.Time) {
	t.Helper()
	if n == 0 {
		return
	}
	for _, d := range ds {
		for _, offset := range offsets {
			c, b := checkTold(t, c, b, raw+d, offset)
			checkBook(t, &c, b, 0, 1, second)
			grow(t, c, b, raw+d, n-1, ds, offsets)
		}
	}
}

func TestEveryShortList(t *testing.T) {
	for _, freq := range []int{0, 333333} {
		c, b := newClock(t, 0, 1000, freq), newBook(0, 1000, freq)
		grow(t, *c, b, 0, 3, []api.Time{0, second - 1, second, minutes - 1, minutes}, []api.Time{0, -1, edge, -edge, edge + 1, -edge - 1})
		grow(t, *c, b, 0, 5, []api.Time{second, minutes / 2}, []api.Time{-edge, 3, -widest, edge + 1})
	}
}

// someOffset is now and then a slewed one, and now and then at an edge.
func someOffset(r *rand.Rand) api.Time {
	if r.Intn(3) == 0 {
		return kinds[r.Intn(len(kinds))]
	}
	x := api.Time(r.Int63n(1 << (1 + r.Intn(36))))
	if r.Intn(2) == 0 {
		return -x
	}
	return x
}

func someCounts(r *rand.Rand) api.Time {
	near := []api.Time{0, 1, 1999, 2000, second - 1, second, second + 1, minutes - 1, minutes, minutes + 1, elapsed}
	if r.Intn(3) == 0 {
		return near[r.Intn(len(near))]
	}
	return api.Time(r.Int63n(1 << (1 + r.Intn(40))))
}

// someLife tells a clock so many things at random, and asks it in between.
func someLife(t *testing.T, r *rand.Rand, n int) {
	t.Helper()
	raw, base := someCounts(r)<<r.Intn(18), someCounts(r)<<r.Intn(18)
	freq := (r.Intn(2*fastest+1) - fastest) >> r.Intn(20)
	c, b := *newClock(t, raw, base, freq), newBook(raw, base, freq)
	for range n {
		checkBook(t, &c, b, 0, someCounts(r), someCounts(r), elapsed)
		next := raw + someCounts(r)
		if next-b.count > elapsed {
			refuseRead(t, &c, next, api.ErrRange)
			refuseUpdate(t, &c, next, someOffset(r), api.ErrRange)
			next = b.count + someCounts(r)
		}
		raw = next
		c, b = checkTold(t, c, b, raw, someOffset(r))
	}
	checkBook(t, &c, b, 0, 1, minutes, elapsed)
}

func TestRandomLists(t *testing.T) {
	r := rand.New(rand.NewSource(17))
	for range 4000 {
		someLife(t, r, 1+r.Intn(25))
	}
}

// FuzzClock takes eight bytes for a count, and eight for an offset, and so on.
func FuzzClock(f *testing.F) {
	add := func(freq int, list ...api.Time) {
		var text []byte
		for _, x := range list {
			text = binary.BigEndian.AppendUint64(text, uint64(x))
		}
		f.Add(int64(0), int64(1000), freq, text)
	}
	add(0, 500, 2000000, second+500, 1000, 3*second, 200000, 3*second+minutes, 200000)
	add(-fastest, 0, 0, second, edge, second-1, edge, elapsed+second, -edge)
	add(fastest, 0, 0, elapsed+1, 0, elapsed, -widest, 0, -widest-1, 0, 1)
	f.Fuzz(func(t *testing.T, raw, base int64, freq int, text []byte) {
		c, e := New(api.Time(raw), api.Time(base), freq)
		right := raw == min(max(raw, 0), 1<<58) && base == min(max(base, 0), 1<<58) && freq == min(max(freq, -500000), 500000)
		if right != (e == api.OK) || right != (c != nil) {
			fail(t, "New(%d, %d, %d) = %v, %v", raw, base, freq, c, e)
		}
		if !right {
			return
		}
		b := newBook(api.Time(raw), api.Time(base), freq)
		for ; len(text) >= 16; text = text[16:] {
			raw, offset := api.Time(binary.BigEndian.Uint64(text)), api.Time(binary.BigEndian.Uint64(text[8:]))
			if d := new(big.Rat).Sub(whole(raw), whole(b.count)); d.Sign() < 0 || d.Cmp(whole(1<<40)) > 0 {
				refuseRead(t, c, raw, api.ErrRange)
				refuseUpdate(t, c, raw, offset, api.ErrRange)
				continue
			}
			if offset < -1<<36 || offset > 1<<36 {
				refuseUpdate(t, c, raw, offset, api.ErrRange)
				continue
			}
			next, want := b.updated(raw, offset)
			checkUpdate(t, c, raw, offset, want)
			b = next
			checkBook(t, c, b, 0, 1, second, elapsed)
			checkTick(t, c, b.count)
			checkParts(t, c, b.count, second)
		}
	})
}
