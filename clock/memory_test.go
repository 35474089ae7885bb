package clock

import (
	"math/rand"
	"testing"

	"sundial/api"
)

// someScript is what a clock may be told, the counts from its beginning on.
func someScript(r *rand.Rand) []told {
	var list []told
	for range 1 + r.Intn(12) {
		list = append(list, told{someCounts(r) >> 4, someOffset(r)})
	}
	return list
}

// disturb asks what changes nothing: reads, and updates to which an error is the answer.
func disturb(t *testing.T, c *Clock, raw api.Time) {
	t.Helper()
	for _, x := range []api.Time{raw, raw + 1, raw + minutes, -1, least, most} {
		c.Read(x)
		refuseUpdate(t, c, x, widest+1, api.ErrRange)
		refuseUpdate(t, c, x, -widest-1, api.ErrRange)
		refuseUpdate(t, c, x, least, api.ErrRange)
		refuseUpdate(t, c, x, most, api.ErrRange)
	}
	for _, x := range []api.Time{-1, least, most} {
		for _, offset := range kinds {
			refuseUpdate(t, c, x, offset, api.ErrRange)
		}
	}
	c.Freq()
	c.Spiking()
}

// P17.2, P17.3: a clock that is asked, and told what is refused, is from then on like one that isn't.
func TestErrorsAndReadsChangeNothing(t *testing.T) {
	r := rand.New(rand.NewSource(172))
	for range 500 {
		freq := r.Intn(2*fastest+1) - fastest
		quiet, asked := newClock(t, 10, 20, freq), newClock(t, 10, 20, freq)
		raw := api.Time(10)
		for _, s := range someScript(r) {
			raw += s.d
			disturb(t, asked, raw)
			want, e := quiet.Update(raw, s.offset)
			if got, f := asked.Update(raw, s.offset); got != want || f != e {
				fail(t, "Update(%d, %d) = %v, %v; want %v, %v", raw, s.offset, got, f, want, e)
			}
			disturb(t, asked, raw)
			checkAlike(t, asked, quiet, raw)
		}
	}
}

func checkAlike(t *testing.T, a, b *Clock, raw api.Time) {
	t.Helper()
	for _, x := range []api.Time{raw, raw + 1, raw + 4000, raw + second, raw + minutes, raw + elapsed} {
		want, e := b.Read(x)
		if got, f := a.Read(x); got != want || f != e {
			fail(t, "Read(%d) = %d, %v; want %d, %v", x, got, f, want, e)
		}
	}
	checkState(t, a, b.Freq(), b.Spiking())
}

// Rule 4: what one clock is told says nothing to another one.
func TestClocksAreApart(t *testing.T) {
	one, other := setClock(t, 100, 5, 7), setClock(t, 100, 5, 7)
	checkUpdate(t, one, second, -900, Slewed)
	checkUpdate(t, one, second, second, Ignored)
	checkState(t, other, 5, false)
	checkRead(t, other, 0, 100)
	checkRead(t, other, second, 100+second+5240/1000000+7)
	checkUpdate(t, other, 3, second, Ignored)
	checkUpdate(t, other, 3+minutes, second, Stepped)
	checkUpdate(t, one, 3+minutes, second, Ignored)
	checkState(t, one, 5-53644-1, true)
}

// Rule 4: one clock is read, and many are told, side by side.
func TestSideBySide(t *testing.T) {
	shared := setClock(t, 0, 1000, edge)
	for seed := range int64(8) {
		t.Run("", func(t *testing.T) {
			t.Parallel()
			for d := range api.Time(2000) {
				checkRead(t, shared, 2000*d, 2001*d+d/500)
				checkState(t, shared, 1000, false)
			}
			someLife(t, rand.New(rand.NewSource(seed)), 50)
		})
	}
}
