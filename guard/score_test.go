package guard

import (
	"math/rand"
	"slices"
	"testing"

	"sundial/api"
)

// visit is that a host is seen so many counts behind the time before, and its score then.
type visit struct {
	later, score api.Time
	fast         bool
}

// P18.3: the score becomes less by the counts gone by, down to 0, then more by 8 seconds, and is taken back to 32.
func TestScores(t *testing.T) {
	full := []visit{{0, eight, false}, {0, 2 * eight, false}, {0, 3 * eight, false}, {0, top, false}, {0, top, true}, {0, top, true}}
	for _, r := range []struct{ ahead, then []visit }{
		{full, nil}, {nil, []visit{{last, eight, false}, {0, 2 * eight, false}}}, {nil, []visit{{5, eight, false}, {last - 5, eight, false}, {0, 2 * eight, false}}},
		// Down to above 0, to 0, and below it.
		{full[:1], []visit{{eight - 1, eight + 1, false}, {eight, eight + 1, false}, {eight + 1, eight, false}}},
		{full[:1], []visit{{eight, eight, false}}}, {full[:1], []visit{{eight + 1, eight, false}}}, {full[:1], []visit{{eight + 2, eight, false}}}, {full[:1], []visit{{last, eight, false}}},
		{full[:2], []visit{{2*eight - 1, eight + 1, false}}}, {full[:2], []visit{{2 * eight, eight, false}}}, {full[:2], []visit{{2*eight + 1, eight, false}}},
		{full[:1], []visit{{1, 2*eight - 1, false}, {2, 3*eight - 3, false}, {3, top - 6, false}, {5, top, true}}},
		// Up to 32 seconds, one less and one more.
		{full[:3], []visit{{1, top - 1, false}, {eight, top - 1, false}, {eight - 1, top, false}, {eight - 1, top, true}, {eight, top, false}, {eight + 1, top - 1, false}}},
		{full[:4], []visit{{eight - 1, top, true}}}, {full[:4], []visit{{eight, top, false}}}, {full[:4], []visit{{eight + 1, top - 1, false}}},
		// What was above 32 is forgotten.
		{full, []visit{{eight - 1, top, true}}}, {full, []visit{{eight, top, false}}}, {full, []visit{{eight + 1, top - 1, false}}},
		{full, []visit{{top - 1, eight + 1, false}}}, {full, []visit{{top, eight, false}}}, {full, []visit{{top + 1, eight, false}, {0, 2 * eight, false}}},
	} {
		checkWay(t, slices.Concat(r.ahead, r.then))
	}
}

// checkWay goes a way with each of the flags that a host that is too fast may have.
func checkWay(t *testing.T, way []visit) {
	t.Helper()
	for flags, tooFast := range map[int]Verdict{0: Pass, Kod: Pass, Limited: Drop, Limited + Kod: Rate} {
		g := flagged(t, flags)
		raw := api.Time(0)
		for i, v := range way {
			raw += v.later
			want := Pass
			if v.fast {
				want = tooFast
			}
			checkAsk(t, g, 9, 3, raw, want)
			checkList(t, g, seen(9, raw, i+1, v.score))
		}
	}
}

// The counts gone by are those since this host was seen, not since any was.
func TestScoresOfSeveralHosts(t *testing.T) {
	g := flagged(t, Limited+Kod)
	for range 4 {
		checkAsk(t, g, 1, 3, 0, Pass)
	}
	// One that asks every second gets 7 seconds more each time.
	for i, score := range []api.Time{8, 15, 22, 29, 32, 32, 32} {
		raw, want := api.Time(1+i)*second, Pass
		if i > 3 {
			want = Rate
		}
		checkAsk(t, g, 2, 3, raw, want)
		checkList(t, g, seen(2, raw, 1+i, score*second), seen(1, 0, 4, top))
	}
	checkAsk(t, g, 1, 3, eight, Pass)
	checkAsk(t, g, 3, 3, eight, Pass)
	checkList(t, g, seen(3, eight, 1, eight), seen(1, eight, 5, top), seen(2, 7*second, 7, top))
	checkAsk(t, g, 1, 3, eight+1, Rate)
	checkAsk(t, g, 2, 3, 15*second, Pass)
	checkAsk(t, g, 3, 3, 15*second, Pass)
	checkList(t, g, seen(3, 15*second, 2, 9*second), seen(2, 15*second, 8, top), seen(1, eight+1, 6, top))
}

// P18.4: one that asks five times at one count is too fast, whatever there was ahead, and so is each time more.
func TestFiveTimesAtOneCount(t *testing.T) {
	for _, ahead := range []int{0, 1, 3, 4, 100} {
		for _, raw := range []api.Time{0, 1, top, last} {
			g := flagged(t, Limited)
			for range ahead {
				g.Ask(9, 3, 0)
			}
			for i := range 10 {
				v, e := g.Ask(9, 3, raw)
				if e != api.OK || i > 3 && v != Drop {
					fail(t, "Ask the time %d at %d, behind %d at 0: %d, %v", i+1, raw, ahead, v, e)
				}
				if (raw >= top || ahead == 0) && i < 4 && v != Pass {
					fail(t, "Ask the time %d at %d, behind %d at 0: %d", i+1, raw, ahead, v)
				}
			}
		}
	}
}

// P18.4: one that asks no more often than every 8 seconds never is, whatever others do meanwhile.
func TestEveryEightSeconds(t *testing.T) {
	r := rand.New(rand.NewSource(184))
	for _, room := range []int64{1, 2, int64(second), int64(top), 1 << 44} {
		g := flagged(t, Limited+Kod)
		raw := api.Time(0)
		for range 2000 {
			checkAsk(t, g, 9, 1+r.Intn(5), raw, Pass)
			for i := range 50 * r.Intn(2) {
				g.Ask(uint32(10+i%15), 3, raw)
			}
			raw += eight + api.Time(r.Int63n(room))
		}
	}
}

// One that asks more often gets there at last: every seventh second its score becomes a second more.
func TestEverySevenSeconds(t *testing.T) {
	g := flagged(t, Limited+Kod)
	raw := api.Time(0)
	for range 25 {
		checkAsk(t, g, 9, 3, raw, Pass)
		raw += 7 * second
	}
	for range 100 {
		checkAsk(t, g, 9, 3, raw, Rate)
		raw += 7 * second
	}
	checkAsk(t, g, 9, 3, raw+second, Pass)
}
