package clock

import (
	"testing"

	"sundial/api"
)

// kinds are offsets of each kind: none, slewed ones and greater ones, above and below nought.
var kinds = []api.Time{0, 1, -1, edge - 1, edge, 1 - edge, -edge, edge + 1, -edge - 1, second, -second, widest - 1, widest, 1 - widest, -widest}

func isGreat(offset api.Time) bool { return offset > edge || offset < -edge }

// P17.3
func TestUnsetIsStepped(t *testing.T) {
	for _, offset := range kinds {
		for _, d := range []api.Time{0, 1, second - 1, second, second + 1, minutes, elapsed} {
			c := newClock(t, 40, 7000, 2000)
			now, _ := c.Read(40 + d)
			checkUpdate(t, c, 40+d, offset, Stepped)
			checkState(t, c, 2000, false)
			checkRead(t, c, 40+d, now+offset)
			// Nothing is left to be slewed: 499999 counts at 2000 parts in a thousand million are less than a tick.
			checkRead(t, c, 40+d+499999, now+offset+499999)
			// It is set: a step doesn't follow at once.
			checkUpdate(t, c, 40+d, edge+1, Ignored)
		}
	}
}

// P17.3
func TestSetIsSlewed(t *testing.T) {
	for _, offset := range kinds {
		if isGreat(offset) {
			continue
		}
		c := newClock(t, 0, 7000, 0)
		checkUpdate(t, c, 10, 300, Stepped)
		checkUpdate(t, c, 10, offset, Slewed)
		checkState(t, c, 0, false)
		checkRead(t, c, 10, 7310)
		checkRead(t, c, 10+2000*edge, 7310+2000*edge+offset)
		checkRead(t, c, 10+elapsed, 7310+elapsed+offset)
	}
}

// P17.3: what an earlier offset left to be slewed gives way to the next.
func TestPhaseGivesWay(t *testing.T) {
	c := setClock(t, 0, 0, 1000)
	checkRead(t, c, 20000, 20010)
	checkUpdate(t, c, 20000, -7, Slewed)
	checkRead(t, c, 20000, 20010)
	checkRead(t, c, 20001, 20010)
	checkRead(t, c, second, second+10-7)
	checkUpdate(t, c, 30000, 3, Slewed)
	checkRead(t, c, 30000, 30005)
	checkRead(t, c, 32000, 32006)
	checkRead(t, c, second, second+8)
	checkUpdate(t, c, 35000, 0, Slewed)
	checkRead(t, c, 35000, 35007)
	checkRead(t, c, 40000, 40007)
	checkRead(t, c, second, second+7)
	checkState(t, c, 0, false)
}

// P17.3: the base becomes a whole number of ticks, rounded down, whatever of one is left.
func TestBaseIsRoundedDown(t *testing.T) {
	c := setClock(t, 100, 0, edge)
	for i := range api.Time(5) {
		checkUpdate(t, c, (i+1)*1999, edge, Slewed)
	}
	checkRead(t, c, 5*1999, 100+5*1999)
	c = setClock(t, 100, 0, -edge)
	for i := range api.Time(5) {
		checkUpdate(t, c, i+1, -edge, Slewed)
	}
	checkRead(t, c, 5, 100)
}

// P17.3: how a great offset is taken at each count of raw count behind the first one.
func TestSpikeLasts(t *testing.T) {
	for _, offset := range kinds {
		if !isGreat(offset) {
			continue
		}
		for _, r := range []struct {
			d    api.Time
			want Move
		}{{0, Ignored}, {1, Ignored}, {second, Ignored}, {minutes / 2, Ignored}, {minutes - 1, Ignored}, {minutes, Stepped}, {minutes + 1, Stepped}, {2 * minutes, Stepped}, {elapsed - 60, Stepped}} {
			c := setClock(t, 8000, 0, 0)
			checkUpdate(t, c, 60, offset, Ignored)
			checkState(t, c, 0, true)
			checkRead(t, c, 60, 8060)
			checkUpdate(t, c, 60+r.d, -offset, r.want)
			checkState(t, c, 0, r.want == Ignored)
			if r.want == Ignored {
				checkRead(t, c, 60+r.d, 8060+r.d)
				continue
			}
			checkRead(t, c, 60+r.d, 8060+r.d-offset)
			// The step ended the spike.
			checkUpdate(t, c, 60+r.d, offset, Ignored)
			checkState(t, c, 0, true)
		}
	}
}

// P17.3: those that are ignored within a spike don't make it begin anew.
func TestSpikeKeepsItsBeginning(t *testing.T) {
	c := setClock(t, 0, 0, 0)
	for _, d := range []api.Time{0, 1, minutes / 2, minutes - 2, minutes - 1} {
		checkUpdate(t, c, 500+d, second, Ignored)
		checkState(t, c, 0, true)
	}
	checkUpdate(t, c, 500+minutes, second, Stepped)
	checkState(t, c, 0, false)
	checkRead(t, c, 500+minutes, 500+minutes+second)
	checkUpdate(t, c, 500+minutes, second, Ignored)
	checkUpdate(t, c, 500+minutes+minutes-1, second, Ignored)
	checkUpdate(t, c, 500+minutes+minutes, second, Stepped)
}

// P17.3: a raw count may lie ahead of the spike's, as no update was taken since the base was set.
func TestCountsAheadOfASpike(t *testing.T) {
	c := setClock(t, 0, 0, 0)
	checkUpdate(t, c, 1000+minutes, second, Ignored)
	checkUpdate(t, c, 1000, second, Ignored)
	checkUpdate(t, c, 0, second, Ignored)
	checkState(t, c, 0, true)
	checkUpdate(t, c, 1000+minutes, second, Ignored)
	checkUpdate(t, c, 999+2*minutes, second, Ignored)
	checkUpdate(t, c, 0, 5, Slewed)
	checkState(t, c, 0, false)
}

// P17.3: a small offset ends a spike, and the next great one begins another.
func TestSmallOffsetEndsASpike(t *testing.T) {
	for _, small := range []api.Time{0, 1, -1, edge, -edge} {
		for _, d := range []api.Time{0, 1, minutes - 1, minutes, 2 * minutes} {
			c := setClock(t, 0, 0, 0)
			checkUpdate(t, c, 0, edge+1, Ignored)
			checkUpdate(t, c, 0, small, Slewed)
			checkState(t, c, 0, false)
			checkUpdate(t, c, d, -widest, Ignored)
			checkState(t, c, 0, true)
			checkUpdate(t, c, d+minutes-1, -widest, Ignored)
			checkUpdate(t, c, d+minutes, -widest, Stepped)
			checkState(t, c, 0, false)
		}
	}
}

// P17.3: a small offset within a spike, and behind it, is slewed and corrects the frequency by the counts since the base was set.
func TestIgnoredDontCount(t *testing.T) {
	for _, d := range []api.Time{second - 1, second, minutes - 1, minutes, minutes + 1, 2 * minutes} {
		c := setClock(t, 0, 0, 0)
		checkUpdate(t, c, 0, second, Ignored)
		checkUpdate(t, c, min(d, minutes-1), second, Ignored)
		checkUpdate(t, c, d, 1000, Slewed)
		want := 62500000 * 1000 / int(d)
		if d < second {
			want = 0
		}
		checkState(t, c, want, false)
	}
	c := setClock(t, 0, 0, 0)
	checkUpdate(t, c, 5*second, second, Ignored)
	checkUpdate(t, c, 7*second, -second, Ignored)
	checkUpdate(t, c, 8*second, 1000, Slewed)
	checkState(t, c, 7450, false)
	checkRead(t, c, 8*second, 8*second)
}

// P17.3: what is left to be slewed is given up by a step.
func TestStepEndsASlew(t *testing.T) {
	for _, phase := range []api.Time{1000000, -1000000} {
		phase = min(max(phase, -edge), edge)
		c := setClock(t, 0, 0, phase)
		checkUpdate(t, c, 1000, widest, Ignored)
		checkRead(t, c, 2000, 2000+max(min(phase, 1), -1))
		// Ignored updates leave the phase as it is, and what it makes up goes on.
		checkRead(t, c, elapsed, elapsed+phase)
		at := 1000 + minutes
		checkRead(t, c, at, at+phase)
		checkUpdate(t, c, at, widest, Stepped)
		checkRead(t, c, at, at+phase+widest)
		checkRead(t, c, at+elapsed, at+phase+widest+elapsed)
	}
	c := setClock(t, 0, 0, edge)
	checkUpdate(t, c, 0, second, Ignored)
	checkUpdate(t, c, 0, 200, Slewed)
	checkRead(t, c, elapsed, elapsed+200)
}

// P17.3: the frequency, by an offset so many counts behind the last update.
func TestFrequency(t *testing.T) {
	for _, r := range []struct {
		freq      int
		offset, d api.Time
		want      int
	}{
		{0, 1000, 0, 0}, {0, 1000, 1, 0}, {0, 1000, second - 1, 0}, {0, 1000, second, 59604}, {0, 1000, second + 1, 59604}, {0, 1000, 2 * second, 29802},
		{0, -1000, second - 1, 0}, {0, -1000, second, -59605}, {0, -1000, 2 * second, -29803},
		{0, 0, second, 0}, {77, 0, elapsed, 77}, {-77, 0, second, -77},
		{0, 1, second, 59}, {0, -1, second, -60}, {5, 1, second, 64}, {5, -1, second, -55}, {-5, 1, second, 54},
		{0, 1, 62500000, 1}, {0, 1, 62500001, 0}, {0, 1, 62499999, 1}, {0, -1, 62500000, -1}, {0, -1, 62500001, -1}, {0, -1, 62499999, -2},
		{0, 2, 62500000, 2}, {0, 3, 125000000, 1}, {0, -3, 125000000, -2}, {9, -3, 125000000, 7},
		{0, 1, elapsed, 0}, {0, -1, elapsed, -1}, {3, 1, elapsed, 3}, {3, -1, elapsed, 2},
		{0, edge, elapsed, 7}, {0, -edge, elapsed, -8}, {0, 125000, 1 << 33, 909}, {0, -125000, 1 << 33, -910}, {0, 2, 1<<31 + 1, 0}, {0, -2, 1<<31 + 1, -1},
		{0, edge, second, fastest}, {0, -edge, second, -fastest}, {fastest, -edge, second, -fastest}, {-fastest, edge, second, fastest},
		{0, 8388, second, 499963}, {0, 8389, second, fastest}, {0, -8388, second, -499964}, {0, -8389, second, -fastest},
		{fastest, 1, second, fastest}, {fastest - 59, 1, second, fastest}, {fastest - 60, 1, second, fastest - 1}, {fastest - 58, 1, second, fastest}, {fastest, -1, second, fastest - 60},
		{-fastest, -1, second, -fastest}, {60 - fastest, -1, second, -fastest}, {61 - fastest, -1, second, 1 - fastest}, {59 - fastest, -1, second, -fastest}, {-fastest, 1, second, 59 - fastest},
		{fastest, 0, elapsed, fastest}, {-fastest, 0, elapsed, -fastest},
	} {
		// Both a step and a slew are a last update.
		c := newClock(t, 3, 0, r.freq)
		checkUpdate(t, c, 1000, 50, Stepped)
		checkUpdate(t, c, 1000+r.d, r.offset, Slewed)
		checkState(t, c, r.want, false)
		c = setClock(t, 50, r.freq, 5)
		checkUpdate(t, c, r.d, r.offset, Slewed)
		checkState(t, c, r.want, false)
		// A clock's beginning is none.
		c = newClock(t, 3, 0, r.freq)
		checkUpdate(t, c, 3+r.d, r.offset, Stepped)
		checkState(t, c, r.freq, false)
	}
}

// P17.3: what is read at a slew is what was read by the frequency and phase ahead of it.
func TestFrequencyFromTheBaseOn(t *testing.T) {
	c := setClock(t, 0, 100000, 10)
	at := second
	checkRead(t, c, at, at+104+10)
	checkUpdate(t, c, at, 2000, Slewed)
	checkState(t, c, 219209, false)
	checkRead(t, c, at, at+114)
	checkRead(t, c, at+1000000, at+114+1000000+719)
	checkRead(t, c, at+10000000, at+114+10000000+2000+2192)
}

// P17.3: a frequency stays over what is ignored and over steps.
func TestStepLeavesTheFrequency(t *testing.T) {
	c := setClock(t, 0, 1000, 0)
	for i := range api.Time(4) {
		at := i * 2 * minutes
		checkUpdate(t, c, at, widest, Ignored)
		checkState(t, c, 1000, true)
		checkUpdate(t, c, at+minutes, -widest, Stepped)
		checkState(t, c, 1000, false)
	}
}

// P17.3
func TestUpdateRefuses(t *testing.T) {
	wrong := []api.Time{widest + 1, -widest - 1, 2 * widest, api.Far, -api.Far, least, least + 1, most}
	spiking := setClock(t, 0, -5, 0)
	checkUpdate(t, spiking, 0, widest, Ignored)
	for _, r := range []struct {
		c     *Clock
		count api.Time
	}{{newClock(t, 100, 0, fastest), 100}, {setClock(t, 0, 0, 77), 0}, {spiking, 0}} {
		c, count := r.c, r.count
		for _, raw := range []api.Time{count, count + 1, count + second, count + elapsed} {
			for _, offset := range wrong {
				refuseUpdate(t, c, raw, offset, api.ErrRange)
			}
		}
		for _, raw := range []api.Time{count - 1, -1, count + elapsed + 1, start * 2, least, least + 1, most} {
			for _, offset := range append(wrong, kinds...) {
				refuseUpdate(t, c, raw, offset, api.ErrRange)
			}
		}
	}
}
