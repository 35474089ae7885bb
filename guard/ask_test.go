package guard

import (
	"math"
	"testing"

	"sundial/api"
)

// wrongModes are none, wrongRaws are no counts of any Ask.
func wrongModes() []int {
	return []int{-1, -2, -8, 8, 9, 15, 256, 1<<32 + 3, -1<<32 + 3, math.MinInt, math.MinInt + 3, math.MaxInt}
}

func wrongRaws() []api.Time {
	return []api.Time{-1, -2, -last, last + 1, last + 2, 2 * last, api.Far, lowest, lowest + 1, most}
}

// P18.3: the modes and the counts at their edges, and one beside them.
func TestAskAtTheEdges(t *testing.T) {
	for mode := range 8 {
		for _, raw := range []api.Time{0, 1, second, last - 1, last} {
			g := newGuard(t)
			want := Pass
			if mode == 0 || mode == 7 {
				want = Drop
			}
			checkAsk(t, g, 9, mode, raw, want)
			checkList(t, g, seen(9, raw, 1, eight))
			checkAsk(t, g, 8, mode, raw, want)
			checkList(t, g, seen(8, raw, 1, eight), seen(9, raw, 1, eight))
		}
	}
}

func TestAskOutOfRange(t *testing.T) {
	for _, flags := range []int{0, Ignore, NoServe + Kod, NoQuery, Limited + Kod, 127} {
		g := flagged(t, flags)
		for range 2 {
			for _, raw := range append(wrongRaws(), 0, 5, last) {
				for _, mode := range wrongModes() {
					refuseAsk(t, g, 9, mode, raw, api.ErrRange)
				}
			}
			for _, raw := range wrongRaws() {
				for mode := range 8 {
					refuseAsk(t, g, 9, mode, raw, api.ErrRange)
				}
			}
		}
		// Nobody was seen.
		checkList(t, g)
		g.Ask(9, 3, 0)
		checkList(t, g, seen(9, 0, 1, eight))
	}
}

// P18.3: a count isn't below that of an Ask ahead, of whatever host and mode, and whatever its verdict was.
func TestAskBelowTheLastCount(t *testing.T) {
	for _, flags := range []int{0, Ignore, NoServe, NoServe + Kod, NoQuery, Limited, Limited + Kod} {
		for mode := range 8 {
			g := flagged(t, flags)
			for _, raw := range []api.Time{0, 1, 2, second, second + 1, last - 1, last} {
				for _, addr := range []uint32{9, 8} {
					if _, e := g.Ask(addr, mode, raw); e != api.OK {
						fail(t, "Ask(%d, %d, %d) = %v", addr, mode, raw, e)
					}
					for _, less := range []api.Time{1, 2, second, raw + 1} {
						refuseAsk(t, g, addr, mode, raw-less, api.ErrRange)
						refuseAsk(t, g, 7, 3, raw-less, api.ErrRange)
					}
				}
			}
		}
	}
}

// An Ask that was refused leaves no count for those behind it.
func TestARefusedAskBetweenTwo(t *testing.T) {
	g := newGuard(t)
	refuseAsk(t, g, 9, 8, 700, api.ErrRange)
	refuseAsk(t, g, 9, 3, last+1, api.ErrRange)
	checkAsk(t, g, 9, 3, 500, Pass)
	for _, mode := range wrongModes() {
		refuseAsk(t, g, 9, mode, 700, api.ErrRange)
		refuseAsk(t, g, 9, mode, last, api.ErrRange)
		refuseAsk(t, g, 8, mode, 500, api.ErrRange)
	}
	for _, raw := range append(wrongRaws(), 0, 499) {
		refuseAsk(t, g, 8, 3, raw, api.ErrRange)
	}
	checkList(t, g, seen(9, 500, 1, eight))
	checkAsk(t, g, 8, 3, 500, Pass)
	refuseAsk(t, g, 8, 3, 499, api.ErrRange)
	checkAsk(t, g, 9, 3, 501, Pass)
	checkList(t, g, seen(9, 501, 2, 2*eight-1), seen(8, 500, 1, eight))
}

// A host that was forgotten left its count, too, though it asked last but for those that are remembered.
func TestCountsOfThoseForgotten(t *testing.T) {
	g := newGuard(t)
	checkAsk(t, g, 99, 3, 500, Pass)
	for i := range uint32(16) {
		checkAsk(t, g, i, 3, 500, Pass)
	}
	refuseAsk(t, g, 99, 3, 499, api.ErrRange)
	refuseAsk(t, g, 5, 3, 499, api.ErrRange)
	checkAsk(t, g, 99, 3, 500, Pass)
}

// letters are the verdicts in the modes from 0 to 7: Pass, Drop, Deny, Rate are P, D, N, R.
type letters struct {
	flags      int
	slow, fast string
}

// P18.3: each verdict in each mode, by each flag alone and by several; of a host that is too fast, too.
func TestVerdicts(t *testing.T) {
	for _, r := range []letters{
		{0, "DPPPPPPD", "DPPPPPPD"}, {Ignore, "DDDDDDDD", "DDDDDDDD"}, {NoServe, "DDDDDDPD", "DDDDDDPD"}, {NoQuery, "DPPPPPDD", "DPPPPPDD"},
		{NoModify, "DPPPPPPD", "DPPPPPPD"}, {NoPeer, "DPPPPPPD", "DPPPPPPD"}, {Limited, "DPPPPPPD", "DDDDDDPD"}, {Kod, "DPPPPPPD", "DPPPPPPD"},
		{NoServe + Kod, "DNNNNNPD", "DNNNNNPD"}, {Limited + Kod, "DPPPPPPD", "DRRRRRPD"}, {NoQuery + Kod, "DPPPPPDD", "DPPPPPDD"}, {Ignore + Kod, "DDDDDDDD", "DDDDDDDD"},
		{NoServe + Limited, "DDDDDDPD", "DDDDDDPD"}, {NoServe + Limited + Kod, "DNNNNNPD", "DNNNNNPD"}, {NoServe + NoQuery, "DDDDDDDD", "DDDDDDDD"}, {NoServe + NoQuery + Kod, "DNNNNNDD", "DNNNNNDD"},
		{NoQuery + Limited, "DPPPPPDD", "DDDDDDDD"}, {NoQuery + Limited + Kod, "DPPPPPDD", "DRRRRRDD"}, {NoModify + NoPeer + Kod, "DPPPPPPD", "DPPPPPPD"}, {NoModify + NoPeer + Limited + Kod, "DPPPPPPD", "DRRRRRPD"},
		{Ignore + NoServe, "DDDDDDDD", "DDDDDDDD"}, {Ignore + NoServe + Kod, "DDDDDDDD", "DDDDDDDD"}, {Ignore + Limited + Kod, "DDDDDDDD", "DDDDDDDD"}, {126, "DNNNNNDD", "DNNNNNDD"}, {127, "DDDDDDDD", "DDDDDDDD"},
		{127 - Ignore - NoServe, "DPPPPPDD", "DRRRRRDD"}, {127 - Ignore - NoServe - Kod, "DPPPPPDD", "DDDDDDDD"}, {127 - Ignore - Kod, "DDDDDDDD", "DDDDDDDD"}, {127 - Ignore - NoQuery, "DNNNNNPD", "DNNNNNPD"}, {127 - Ignore - NoServe - Limited, "DPPPPPDD", "DPPPPPDD"},
	} {
		for mode := range 8 {
			checkVerdict(t, r.flags, mode, false, verdictOf(r.slow[mode]))
			checkVerdict(t, r.flags, mode, true, verdictOf(r.fast[mode]))
		}
	}
}

func verdictOf(letter byte) Verdict {
	switch letter {
	case 'D':
		return Drop
	case 'N':
		return Deny
	case 'R':
		return Rate
	}
	return Pass
}

// checkVerdict asks with an address of these flags, of a host that is too fast or just not.
func checkVerdict(t *testing.T, flags, mode int, fast bool, want Verdict) {
	t.Helper()
	// Another rule, about another host, changes nothing.
	g := newGuard(t, Rule{9, 15, flags}, Rule{8, 15, flags ^ 127})
	for i := range 16 {
		g.Ask(9, i%8, 70)
		g.Ask(8, i%8, 70)
	}
	raw := 70 + eight
	if fast {
		raw--
	}
	checkAsk(t, g, 9, mode, raw, want)
}

// clause is a part of what P18.3 says, in the chapter's order.
type clause struct {
	from, to int // the modes that it is about
	flags    int // all of which the address has
	fast     bool
	verdict  Verdict
}

// P18.3: the first that applies, of all flags in all modes.
func TestTheFirstThatApplies(t *testing.T) {
	for flags := range 128 {
		for mode := range 8 {
			for _, fast := range []bool{false, true} {
				checkVerdict(t, flags, mode, fast, firstThatApplies(flags, mode, fast))
			}
		}
	}
}

func firstThatApplies(flags, mode int, fast bool) Verdict {
	for _, c := range []clause{
		{0, 7, Ignore, false, Drop}, {1, 5, NoServe | Kod, false, Deny}, {1, 5, NoServe, false, Drop}, {1, 5, Limited | Kod, true, Rate}, {1, 5, Limited, true, Drop},
		{6, 6, NoQuery, false, Drop}, {0, 0, 0, false, Drop}, {7, 7, 0, false, Drop},
	} {
		if c.from <= mode && mode <= c.to && flags&c.flags == c.flags && (fast || !c.fast) {
			return c.verdict
		}
	}
	return Pass
}

// A host is seen in each mode and with each verdict, so that its score becomes more alike.
func TestEveryVerdictIsSeen(t *testing.T) {
	for flags := range 128 {
		for mode := range 8 {
			g := flagged(t, flags)
			for i := range 4 {
				checkAsk(t, g, 9, mode, 70, firstThatApplies(flags, mode, false))
				checkList(t, g, seen(9, 70, 1+i, api.Time(1+i)*eight))
			}
			for i := range 3 {
				checkAsk(t, g, 9, mode, 70, firstThatApplies(flags, mode, true))
				checkList(t, g, seen(9, 70, 5+i, top))
			}
		}
	}
	// The modes that are never too fast count for those that may be.
	for _, mode := range []int{0, 6, 7} {
		g := flagged(t, Limited+Kod)
		for range 4 {
			checkAsk(t, g, 9, mode, 70, firstThatApplies(Limited+Kod, mode, false))
		}
		checkAsk(t, g, 9, 3, 70, Rate)
		checkAsk(t, g, 9, mode, 70, firstThatApplies(Limited+Kod, mode, true))
		checkAsk(t, g, 9, 1, 70+eight, Pass)
	}
}
