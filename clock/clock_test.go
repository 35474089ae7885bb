package clock

import (
	"fmt"
	"math"
	"testing"

	"sundial/api"
)

const (
	second  = api.Second
	minutes = 300 * second // how long a spike lasts
	elapsed = api.Time(api.MaxElapsed)
	fastest = api.MaxFreq
	edge    = api.Time(134217)  // the greatest offset that is slewed
	widest  = api.Time(1) << 36 // the greatest offset
	start   = api.Time(1) << 58 // the greatest raw count and base to begin with
	least   = api.Time(math.MinInt64)
	most    = api.Time(math.MaxInt64)
)

// fail tells what went wrong, cut short.
func fail(t *testing.T, form string, things ...any) {
	t.Helper()
	text := fmt.Sprintf(form, things...)
	t.Fatal(text[:min(len(text), 900)])
}

func newClock(t *testing.T, raw, base api.Time, freq int) *Clock {
	t.Helper()
	c, e := New(raw, base, freq)
	if c == nil || e != api.OK {
		fail(t, "New(%d, %d, %d) = %v, %v", raw, base, freq, c, e)
	}
	return c
}

// setClock is one that has been stepped by nothing at 0, where it reads base, and then slewed by phase.
func setClock(t *testing.T, base api.Time, freq int, phase api.Time) *Clock {
	t.Helper()
	c := newClock(t, 0, base, freq)
	checkUpdate(t, c, 0, 0, Stepped)
	checkUpdate(t, c, 0, phase, Slewed)
	checkState(t, c, freq, false)
	return c
}

func checkRead(t *testing.T, c *Clock, raw, want api.Time) {
	t.Helper()
	if got, e := c.Read(raw); got != want || e != api.OK {
		fail(t, "Read(%d) = %d, %v; want %d", raw, got, e, want)
	}
}

func refuseRead(t *testing.T, c *Clock, raw api.Time, want api.Errno) {
	t.Helper()
	if got, e := c.Read(raw); got != 0 || e != want {
		fail(t, "Read(%d) = %d, %v; want %v", raw, got, e, want)
	}
}

func checkUpdate(t *testing.T, c *Clock, raw, offset api.Time, want Move) {
	t.Helper()
	if got, e := c.Update(raw, offset); got != want || e != api.OK {
		fail(t, "Update(%d, %d) = %v, %v; want %v", raw, offset, got, e, want)
	}
}

func refuseUpdate(t *testing.T, c *Clock, raw, offset api.Time, want api.Errno) {
	t.Helper()
	if got, e := c.Update(raw, offset); got != 0 || e != want {
		fail(t, "Update(%d, %d) = %v, %v; want %v", raw, offset, got, e, want)
	}
}

func checkState(t *testing.T, c *Clock, freq int, spiking bool) {
	t.Helper()
	if c.Freq() != freq || c.Spiking() != spiking {
		fail(t, "Freq() = %d, Spiking() = %v; want %d, %v", c.Freq(), c.Spiking(), freq, spiking)
	}
}

func TestExamples(t *testing.T) {
	c := newClock(t, 0, 1000, 0)
	checkRead(t, c, 500, 1500)
	checkUpdate(t, c, 500, 2000000, Stepped)
	checkRead(t, c, 500, 2001500)
	checkRead(t, c, 1500, 2002500)
	checkUpdate(t, c, 1048576+500, 1000, Slewed)
	checkState(t, c, 59604, false)
	base, at := api.Time(2001500+1048576), api.Time(1048576+500)
	checkRead(t, c, at, base)
	checkRead(t, c, at+2000000, base+2000000+1119)
	checkRead(t, c, at+1000000000, base+1000000000+60604)
	at += 1000000000
	checkUpdate(t, c, at, 200000, Ignored)
	checkState(t, c, 59604, true)
	checkUpdate(t, c, at+minutes-1, 200000, Ignored)
	checkUpdate(t, c, at+minutes, 200000, Stepped)
	checkState(t, c, 59604, false)
}

func TestMoves(t *testing.T) {
	if Slewed != 0 || Stepped != 1 || Ignored != 2 {
		t.Error(Slewed, Stepped, Ignored)
	}
}

// P17.1
func TestNewTakesWhatIsInItsRange(t *testing.T) {
	for _, raw := range []api.Time{0, 1, 500, start - 1, start} {
		for _, base := range []api.Time{0, 1, 1000, start - 1, start} {
			for _, freq := range []int{-fastest, -fastest + 1, -1, 0, 1, fastest - 1, fastest} {
				c := newClock(t, raw, base, freq)
				checkState(t, c, freq, false)
				checkRead(t, c, raw, base)
				// Within 1999 counts the frequency alone makes up less than a tick.
				checkRead(t, c, raw+1999, base+1999+min(max(api.Time(freq), -1), 0))
				refuseRead(t, c, raw-1, api.ErrRange)
				checkUpdate(t, c, raw, 5, Stepped)
				checkRead(t, c, raw, base+5)
			}
		}
	}
}

// P17.1
func TestNewRefusesWhatIsNot(t *testing.T) {
	wrong := []api.Time{-1, -2, start + 1, start * 2, api.Far, least, least + 1, most}
	freqs := []int{-fastest - 1, fastest + 1, -1 << 31, 1<<31 - 1, math.MinInt, math.MaxInt, 1 << 32}
	for _, right := range []api.Time{0, 7, start} {
		for _, w := range wrong {
			refuseNew(t, w, right, 0)
			refuseNew(t, right, w, 0)
			refuseNew(t, w, w, fastest)
			for _, freq := range freqs {
				refuseNew(t, w, right, freq)
				refuseNew(t, right, w, freq)
			}
		}
		for _, freq := range freqs {
			refuseNew(t, right, right, freq)
		}
	}
}

func refuseNew(t *testing.T, raw, base api.Time, freq int) {
	t.Helper()
	if c, e := New(raw, base, freq); c != nil || e != api.ErrRange {
		fail(t, "New(%d, %d, %d) = %v, %v", raw, base, freq, c, e)
	}
}

// P17.1
func TestNilClock(t *testing.T) {
	var none *Clock
	for _, raw := range []api.Time{0, 1, -1, start, least, most} {
		refuseRead(t, none, raw, api.ErrNil)
		for _, offset := range []api.Time{0, 1, widest, widest + 1, least, most} {
			refuseUpdate(t, none, raw, offset, api.ErrNil)
		}
	}
	checkState(t, none, 0, false)
}

// Nobody need have called New: every call of a zero Clock ends, too.
func TestZeroClock(t *testing.T) {
	var c Clock
	checkState(t, &c, 0, false)
	checkRead(t, &c, 5, 5)
	refuseRead(t, &c, -1, api.ErrRange)
	checkUpdate(t, &c, 5, 200000, Stepped)
	checkRead(t, &c, 6, 200006)
	checkUpdate(t, &c, 6, 200000, Ignored)
	checkState(t, &c, 0, true)
}
