package guard

import (
	"math"
	"slices"
	"testing"

	"sundial/api"
)

// P18.1: a guard that has seen nobody, of any number of rules up to 64.
func TestNewOfRightRules(t *testing.T) {
	for _, rules := range [][]Rule{nil, {}, rulesOf(1), rulesOf(2), rulesOf(63), rulesOf(64), make([]Rule, 64), slices.Repeat([]Rule{{5, 7, 127}}, 64)} {
		g := newGuard(t, rules...)
		checkList(t, g)
		checkFlagsLike(t, g, rules)
		// It has seen nobody, so any count will do at first.
		checkAsk(t, g, 1<<31, 3, 0, Pass)
		checkList(t, g, seen(1<<31, 0, 1, eight))
	}
}

// checkFlagsLike asks for the flags of addresses that the rules are about, and of those beside them.
func checkFlagsLike(t *testing.T, g *Guard, rules []Rule) {
	t.Helper()
	addrs := []uint32{0, 1, 1 << 31, math.MaxUint32}
	for _, r := range rules {
		addrs = append(addrs, r.Addr, r.Addr+1, r.Addr-1, r.Addr|^r.Mask, r.Addr^1<<31)
	}
	for _, addr := range addrs {
		checkFlags(t, g, addr, flagsBySorting(rules, addr))
	}
}

func TestNewOfTooManyRules(t *testing.T) {
	for _, n := range []int{65, 66, 128, 1 << 16} {
		refuseNew(t, rulesOf(n))
		refuseNew(t, make([]Rule, n))
	}
	refuseNew(t, append(rulesOf(64), Rule{Addr: 1}))
}

// A rule's Addr has no bit that its Mask hasn't.
func TestAddrWithinMask(t *testing.T) {
	for _, mask := range []uint32{0, 1, 1 << 31, 0xff000000, 0x00ffff00, 0x0f0f0f0f, 0x80000001, 0x7fffffff, 0xfffffffe, math.MaxUint32} {
		for _, addr := range []uint32{0, mask, mask & -mask, mask & (mask - 1), mask & 0x55555555} {
			g := newGuard(t, Rule{addr, mask, 9})
			checkFlags(t, g, addr, 9)
			checkFlags(t, g, addr|^mask, 9)
			for bit := range 32 {
				one := uint32(1) << bit
				if mask&one == 0 {
					refuseNew(t, []Rule{{addr | one, mask, 9}})
					checkFlags(t, g, addr|one, 9)
				} else {
					newGuard(t, Rule{addr | one, mask, 9})
					checkFlags(t, g, addr^one, 0)
				}
			}
		}
	}
}

// wrongFlags are no sums of flags.
func wrongFlags() []int {
	return []int{-1, -2, -64, -127, -128, 128, 129, 255, 256, 1 << 31, 1 << 32, 1<<32 + 1, -1 << 31, -1 << 32, math.MinInt, math.MinInt + 1, math.MaxInt}
}

func TestFlagsOfARule(t *testing.T) {
	for flags := range 128 {
		checkFlags(t, flagged(t, flags), 5, flags)
	}
	for _, flags := range wrongFlags() {
		refuseNew(t, []Rule{{Flags: flags}})
		refuseNew(t, []Rule{{1, math.MaxUint32, flags}})
	}
}

// One wrong rule is enough, wherever it stands.
func TestAWrongRuleAmongRightOnes(t *testing.T) {
	wrong := []Rule{{1, 0, 0}, {1 << 31, 0, 0}, {1, 0xfffffffe, 0}, {1 << 31, 0x7fffffff, 127}, {math.MaxUint32, 0x7fffffff, 1}, {2, 1, -1}}
	for _, flags := range wrongFlags() {
		wrong = append(wrong, Rule{3, 3, flags})
	}
	for _, w := range wrong {
		for _, n := range []int{1, 2, 3, 63, 64, 65} {
			for _, at := range []int{0, n / 2, n - 1} {
				rules := rulesOf(n)
				rules[at] = w
				refuseNew(t, rules)
			}
		}
	}
	refuseNew(t, wrong)
}

// P18.1: a nil guard; that it is nil is told ahead of what is out of its range.
func TestNilGuard(t *testing.T) {
	var none *Guard
	for _, addr := range []uint32{0, 1, math.MaxUint32} {
		if f, e := none.Flags(addr); f != 0 || e != api.ErrNil {
			fail(t, "Flags(%#x) = %d, %v", addr, f, e)
		}
		for _, mode := range []int{math.MinInt, -1, 0, 1, 3, 5, 6, 7, 8, math.MaxInt} {
			for _, raw := range []api.Time{lowest, -1, 0, 1, last, last + 1, most} {
				refuseAsk(t, none, addr, mode, raw, api.ErrNil)
			}
		}
		if l := none.List(); len(l) != 0 {
			fail(t, "List() = %v", l)
		}
	}
}

// Rule 5: every call of a guard that New didn't make ends, too.
func TestZeroGuard(t *testing.T) {
	var g Guard
	checkList(t, &g)
	checkFlags(t, &g, 7, 0)
	refuseAsk(t, &g, 7, 3, -1, api.ErrRange)
	checkAsk(t, &g, 7, 3, 0, Pass)
	checkAsk(t, &g, 7, 7, 1, Drop)
	checkList(t, &g, seen(7, 1, 2, 2*eight-1))
}
