package clock

import (
	"math/big"
	"math/rand"
	"testing"

	"sundial/api"
)

// P17.2
func TestReadWithinItsRange(t *testing.T) {
	for _, raw := range []api.Time{0, 1, 100, start} {
		c := newClock(t, raw, 5000, 0)
		for _, d := range []api.Time{0, 1, 2, 1000, second, elapsed - 1, elapsed} {
			checkRead(t, c, raw+d, 5000+d)
		}
		for _, wrong := range []api.Time{raw - 1, raw - 2, -1, raw + elapsed + 1, raw + elapsed + 2, start * 3, least, least + 1, most, most - 1} {
			refuseRead(t, c, wrong, api.ErrRange)
		}
	}
}

// The range is that of the base's count, which a step and a slew move, and nothing else does.
func TestReadRangeMoves(t *testing.T) {
	c := newClock(t, 100, 0, 0)
	checkRange := func(count api.Time) {
		t.Helper()
		for _, d := range []api.Time{0, elapsed} {
			if _, e := c.Read(count + d); e != api.OK {
				fail(t, "Read(%d): %v", count+d, e)
			}
		}
		refuseRead(t, c, count-1, api.ErrRange)
		refuseRead(t, c, count+elapsed+1, api.ErrRange)
	}
	checkRange(100)
	checkUpdate(t, c, 300, 0, Stepped)
	checkRange(300)
	checkUpdate(t, c, 900, 1, Slewed)
	checkRange(900)
	checkUpdate(t, c, 1900, edge+1, Ignored)
	checkRange(900)
	checkUpdate(t, c, 1900+minutes, edge+1, Stepped)
	checkRange(1900 + minutes)
	checkUpdate(t, c, 1900+minutes+elapsed, 1, Slewed)
	checkRange(1900 + minutes + elapsed)
}

// P17.2: what is read, beyond base + d, of a frequency alone.
func TestReadOfFrequencies(t *testing.T) {
	for _, r := range []struct {
		freq    int
		d, more api.Time
	}{
		{0, 0, 0}, {0, 1, 0}, {0, elapsed, 0},
		{1, 0, 0}, {1, 1, 0}, {1, 999999999, 0}, {1, 1000000000, 1}, {1, 1000000001, 1}, {1, elapsed, 1099},
		{-1, 0, 0}, {-1, 1, -1}, {-1, 999999999, -1}, {-1, 1000000000, -1}, {-1, 1000000001, -2}, {-1, elapsed, -1100},
		{fastest, 0, 0}, {fastest, 1, 0}, {fastest, 1999, 0}, {fastest, 2000, 1}, {fastest, 2001, 1}, {fastest, 3999, 1}, {fastest, 4000, 2},
		{fastest, second, 524}, {fastest, elapsed, 549755813},
		{-fastest, 0, 0}, {-fastest, 1, -1}, {-fastest, 1999, -1}, {-fastest, 2000, -1}, {-fastest, 2001, -2}, {-fastest, 4000, -2}, {-fastest, 4001, -3},
		{-fastest, second, -525}, {-fastest, elapsed, -549755814},
		{333333, 3000, 0}, {333333, 3001, 1}, {-333333, 3000, -1}, {-333333, 3001, -2}, {59604, 1000000000, 59604},
	} {
		checkRead(t, newClock(t, 0, 0, r.freq), r.d, r.d+r.more)
		checkRead(t, newClock(t, start, start, r.freq), start+r.d, start+r.d+r.more)
		checkRead(t, setClock(t, 77, r.freq, 0), r.d, 77+r.d+r.more)
	}
}

// P17.2: what is read, beyond base + d, of a phase alone: a tick more in 2000 counts, to its end.
func TestReadOfPhases(t *testing.T) {
	for _, phase := range []api.Time{1, 2, 3, 1000, 67108, edge - 1, edge} {
		up, down := setClock(t, 5000, 0, phase), setClock(t, 5000, 0, -phase)
		for _, ticks := range []api.Time{1, phase / 2, phase - 1, phase} {
			if ticks < 1 {
				continue
			}
			d := 2000 * ticks
			checkRead(t, up, d-1, 5000+d-1+ticks-1)
			checkRead(t, up, d, 5000+d+ticks)
			checkRead(t, down, d-2000, 5000+d-2000-(ticks-1))
			checkRead(t, down, d-1999, 5000+d-1999-ticks)
			checkRead(t, down, d-1, 5000+d-1-ticks)
			checkRead(t, down, d, 5000+d-ticks)
		}
		for _, d := range []api.Time{0, 1, 1999, 2000, 2001, 4000, second, minutes, elapsed - 2000*phase} {
			end := 2000 * phase
			checkRead(t, up, end+d, 5000+end+d+phase)
			checkRead(t, down, end+d, 5000+end+d-phase)
		}
		checkRead(t, up, 0, 5000)
		checkRead(t, up, 1, 5001)
		checkRead(t, down, 0, 5000)
		checkRead(t, down, 1, 5000)
	}
}

// P17.2: a frequency and a phase are rounded down together, once.
func TestReadOfFrequencyAndPhase(t *testing.T) {
	for _, r := range []struct {
		freq           int
		phase, d, more api.Time
	}{
		{fastest, edge, 1, 0}, {fastest, edge, 999, 0}, {fastest, edge, 1000, 1}, {fastest, edge, 1001, 1}, {fastest, edge, 2000, 2},
		{-fastest, -edge, 1, -1}, {-fastest, -edge, 999, -1}, {-fastest, -edge, 1000, -1}, {-fastest, -edge, 1001, -2}, {-fastest, -edge, 2000, -2},
		{fastest, -edge, 1, 0}, {fastest, -edge, 1999, 0}, {-fastest, edge, 1999, 0}, {-fastest, edge, 2001, 0},
		{fastest, -1, 2000, 0}, {fastest, -1, 2001, 0}, {fastest, -1, 3999, 0}, {fastest, -1, 4000, 1},
		{-fastest, 1, 2000, 0}, {-fastest, 1, 2001, -1}, {-fastest, 1, 4000, -1}, {-fastest, 1, 4001, -2},
		{fastest, edge, 2000*edge - 1, 2*edge - 1}, {fastest, edge, 2000 * edge, 2 * edge}, {fastest, edge, 2000*edge + 1999, 2 * edge}, {fastest, edge, 2000*edge + 2000, 2*edge + 1},
		{-fastest, -edge, 2000*edge - 1, -2 * edge}, {-fastest, -edge, 2000 * edge, -2 * edge}, {-fastest, -edge, 2000*edge + 1, -2*edge - 1},
		{fastest, edge, elapsed, 549755813 + edge}, {-fastest, -edge, elapsed, -549755814 - edge},
		{1, 1, 1, 0}, {1, 1, 1999, 0}, {1, 1, 1996, 0}, {300000, 5, 1250, 1}, {300000, 5, 1249, 0}, {-300000, 5, 5000, 1}, {-300000, 5, 4999, 0}, {-300000, 5, 4, 0},
		{59604, 1000, 2000000, 1119}, {59604, 1000, 2000000 - 1, 1119}, {-59604, -1000, 2000000, -1120},
	} {
		checkRead(t, setClock(t, 0, r.freq, r.phase), r.d, r.d+r.more)
		checkRead(t, setClock(t, start, r.freq, r.phase), r.d, start+r.d+r.more)
	}
}

// P17.2: the same count is read the same, in whatever order and however often.
func TestReadChangesNothing(t *testing.T) {
	c := setClock(t, 9000, 1234, -500)
	counts := []api.Time{elapsed, 0, 1, second, -1, 3000, elapsed + 1, 999999, 1, 0}
	var first [10]api.Time
	for i, raw := range counts {
		first[i], _ = c.Read(raw)
	}
	for range 3 {
		for i, raw := range counts {
			if again, _ := c.Read(raw); again != first[i] {
				fail(t, "Read(%d) = %d, then %d", raw, first[i], again)
			}
		}
		checkState(t, c, 1234, false)
	}
}

// P17.4
func checkTick(t *testing.T, c *Clock, raw api.Time) {
	t.Helper()
	now, e := c.Read(raw)
	next, f := c.Read(raw + 1)
	if e != api.OK || f != api.OK || next < now || next > now+2 {
		fail(t, "Read(%d) = %d, %v, of one more %d, %v", raw, now, e, next, f)
	}
}

// P17.4: base is what was read at the count that the clock was told at.
func checkParts(t *testing.T, c *Clock, count, d api.Time) {
	t.Helper()
	base, _ := c.Read(count)
	now, e := c.Read(count + d)
	parts := new(big.Rat).SetInt64(int64(now - base - d))
	if parts.Abs(parts).Cmp(new(big.Rat).Add(big.NewRat(int64(d), 1000), big.NewRat(1, 1))) > 0 || e != api.OK {
		fail(t, "%d counts after %d: %d, %v, which parts by %v", d, base, now, e, parts)
	}
}

var laws = []struct {
	freq  int
	phase api.Time
}{
	{0, 0}, {0, 1}, {0, -1}, {fastest, edge}, {-fastest, -edge}, {fastest, -edge}, {-fastest, edge}, {fastest, 0}, {-fastest, 0},
	{fastest, 2}, {-fastest, -2}, {fastest, -2}, {-fastest, 2}, {499999, 1}, {-499999, -1}, {123456, -3}, {-1, 7}, {1, -7},
}

func TestReadNeverFallsTickByTick(t *testing.T) {
	for _, l := range laws {
		c := setClock(t, 1000, l.freq, l.phase)
		end := 2000 * max(l.phase, -l.phase)
		for d := range api.Time(9000) {
			checkTick(t, c, d)
			checkTick(t, c, max(end-4500+d, 0))
			checkTick(t, c, elapsed-1-d)
			checkParts(t, c, 0, d)
			checkParts(t, c, 0, max(end-4500+d, 0))
			checkParts(t, c, 0, elapsed-d)
		}
	}
}

// P17.4: over updates that slew or are ignored, too.
func TestReadNeverFallsBetweenSteps(t *testing.T) {
	r := rand.New(rand.NewSource(174))
	for range 2000 {
		c := newClock(t, 0, 0, r.Intn(2*fastest+1)-fastest)
		checkUpdate(t, c, 0, api.Time(r.Int63n(int64(widest))), Stepped)
		raw := api.Time(0)
		now, _ := c.Read(raw)
		for range 30 {
			raw += api.Time(r.Int63n(1<<r.Intn(28) + 1))
			was := now
			now, _ = c.Read(raw)
			if now < was {
				fail(t, "Read(%d) = %d, ahead of it %d", raw, now, was)
			}
			checkTick(t, c, raw)
			offset := api.Time(r.Int63n(int64(2*edge)+1)) - edge
			if r.Intn(8) == 0 {
				checkUpdate(t, c, raw, 2*edge, Ignored)
				checkRead(t, c, raw, now)
			}
			checkUpdate(t, c, raw, offset, Slewed)
			checkRead(t, c, raw, now)
			checkTick(t, c, raw)
			checkParts(t, c, raw, api.Time(r.Int63n(1<<r.Intn(41)+1)))
		}
	}
}
