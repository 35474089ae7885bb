package clock

import (
	"testing"

	"sundial/api"
)

// slewOn slews a clock that has been stepped at raw by nothing, as far ahead as one update goes, so many times. It answers the count then.
func slewOn(t *testing.T, c *Clock, raw api.Time, times int) api.Time {
	t.Helper()
	for range times {
		raw += elapsed
		if m, e := c.Update(raw, 0); m != Slewed || e != api.OK {
			fail(t, "Update(%d, 0) = %v, %v", raw, m, e)
		}
	}
	return raw
}

// nearFar is a clock that is set, and reads less than Far by less at the count.
func nearFar(t *testing.T, less api.Time) (*Clock, api.Time) {
	t.Helper()
	c := newClock(t, 0, start-less, 0)
	checkUpdate(t, c, 0, 0, Stepped)
	raw := slewOn(t, c, 0, int((api.Far-start)/elapsed))
	checkRead(t, c, raw, api.Far-less)
	return c, raw
}

// stepNow steps a set clock at a count by way of a spike.
func stepNow(t *testing.T, c *Clock, raw, offset api.Time) {
	t.Helper()
	checkUpdate(t, c, raw-minutes, offset, Ignored)
	checkUpdate(t, c, raw, offset, Stepped)
}

// P17.3: a step is brought into bounds, above.
func TestStepToFar(t *testing.T) {
	for _, r := range []struct{ less, offset, want api.Time }{
		{widest + 1, widest, api.Far - 1}, {widest, widest, api.Far}, {widest - 1, widest, api.Far}, {0, second, api.Far}, {0, -second, api.Far - second},
		{second + 5, second, api.Far - 5}, {second, second, api.Far}, {second - 1, second, api.Far}, {5, -widest, api.Far - widest - 5},
	} {
		c, raw := nearFar(t, r.less+minutes)
		stepNow(t, c, raw+minutes, r.offset)
		checkRead(t, c, raw+minutes, r.want)
		// What is read from there on isn't brought into bounds: it is base + d + x.
		checkRead(t, c, raw+minutes+7, r.want+7)
		checkRead(t, c, raw+minutes+elapsed, r.want+elapsed)
	}
}

// P17.3: from beyond Far a step goes back by its offset, or to Far.
func TestStepFromBeyondFar(t *testing.T) {
	for _, r := range []struct{ beyond, offset, want api.Time }{
		{second, -second - 1, api.Far - 1}, {second, -second, api.Far}, {second, 1 - second, api.Far}, {second, second, api.Far},
		{widest, -widest, api.Far}, {widest - 1, -widest, api.Far - 1}, {widest + 1, -widest, api.Far}, {elapsed - 2*minutes, -widest, api.Far}, {elapsed - 2*minutes, widest, api.Far},
	} {
		// The wait for the step is what it reads less at first.
		c, raw := nearFar(t, minutes)
		raw += minutes + r.beyond
		checkUpdate(t, c, raw-minutes, 0, Slewed)
		checkRead(t, c, raw, api.Far+r.beyond)
		stepNow(t, c, raw, r.offset)
		checkRead(t, c, raw, r.want)
	}
}

// P17.3: a step is brought into bounds, below.
func TestStepToMinusFar(t *testing.T) {
	if testing.Short() {
		t.Skip("it takes 60 million updates")
	}
	c := newClock(t, 0, 0, 0)
	checkUpdate(t, c, 0, -widest, Stepped)
	raw, now := api.Time(0), -widest
	for now > -api.Far+2*widest-minutes {
		c.Update(raw, -widest)
		raw += minutes
		now += minutes - widest
		if m, e := c.Update(raw, -widest); m != Stepped || e != api.OK {
			fail(t, "Update(%d, %d) = %v, %v", raw, -widest, m, e)
		}
	}
	checkRead(t, c, raw, now)
	// To the bound alone, then as far below it as a step goes, or less.
	stepNow(t, c, raw+minutes, -api.Far+widest-now-minutes)
	raw += minutes
	checkRead(t, c, raw, -api.Far+widest)
	stepNow(t, c, raw+minutes, -widest)
	raw += minutes
	checkRead(t, c, raw, -api.Far+minutes)
	for _, more := range []api.Time{0, 1, second, widest - 2*minutes} {
		stepNow(t, c, raw+minutes, -2*minutes-more)
		raw += minutes
		checkRead(t, c, raw, -api.Far)
		checkRead(t, c, raw+minutes, -api.Far+minutes)
		stepNow(t, c, raw+minutes, 0-edge-1)
		raw += minutes
		checkRead(t, c, raw, -api.Far+minutes-edge-1)
	}
	checkUpdate(t, c, raw, -edge, Slewed)
	checkRead(t, c, raw+1, -api.Far+minutes-edge-1)
	checkRead(t, c, raw+second, -api.Far+minutes-edge-1+second-525)
}

// Rule 5: where an api.Time holds no more, a reading stays instead of falling, and every call ends.
func TestReadingsAtTheEndOfNumbers(t *testing.T) {
	c := newClock(t, 0, start, 0)
	checkUpdate(t, c, 0, 0, Stepped)
	raw := slewOn(t, c, 0, int((most-start)/elapsed))
	end := most - start
	checkRead(t, c, raw, raw+start)
	checkRead(t, c, end-1, most-1)
	checkRead(t, c, end, most)
	checkRead(t, c, end+1, most)
	checkRead(t, c, raw+elapsed, most)
	raw = slewOn(t, c, raw, 3)
	checkRead(t, c, raw, most)
	checkRead(t, c, raw+elapsed, most)
	checkUpdate(t, c, raw, -widest, Ignored)
	checkUpdate(t, c, raw+minutes, widest, Stepped)
	checkRead(t, c, raw+minutes, api.Far)
}

// Rule 5: a count's range doesn't wrap round.
func TestCountsAtTheEndOfNumbers(t *testing.T) {
	c := newClock(t, start, 0, 0)
	checkUpdate(t, c, start, 0, Stepped)
	raw := slewOn(t, c, start, int((most-start)/elapsed))
	checkRead(t, c, most, most-start)
	checkUpdate(t, c, most, 0, Slewed)
	checkRead(t, c, most, most-start)
	for _, wrong := range []api.Time{raw, most - 1, 0, -1, least, least + 1, least + elapsed} {
		refuseRead(t, c, wrong, api.ErrRange)
		refuseUpdate(t, c, wrong, 0, api.ErrRange)
	}
}
