package guard

import (
	"fmt"
	"math"
	"slices"
	"testing"

	"sundial/api"
)

const (
	second = api.Second
	eight  = 8 * second
	top    = 32 * second       // the greatest score
	last   = api.Time(1) << 58 // the greatest raw count
	lowest = api.Time(math.MinInt64)
	most   = api.Time(math.MaxInt64)
)

// fail tells what went wrong, cut short.
func fail(t *testing.T, form string, things ...any) {
	t.Helper()
	text := fmt.Sprintf(form, things...)
	t.Fatal(text[:min(len(text), 900)])
}

func newGuard(t *testing.T, rules ...Rule) *Guard {
	t.Helper()
	g, e := New(rules)
	if g == nil || e != api.OK {
		fail(t, "New(%v) = %v, %v", rules, g, e)
	}
	return g
}

// flagged is a guard that has seen nobody, where every address has these flags.
func flagged(t *testing.T, flags int) *Guard {
	t.Helper()
	return newGuard(t, Rule{Flags: flags})
}

func refuseNew(t *testing.T, rules []Rule) {
	t.Helper()
	if g, e := New(rules); g != nil || e != api.ErrShape {
		fail(t, "New(%v) = %v, %v; want %v", rules, g, e, api.ErrShape)
	}
}

func checkFlags(t *testing.T, g *Guard, addr uint32, want int) {
	t.Helper()
	if f, e := g.Flags(addr); f != want || e != api.OK {
		fail(t, "Flags(%#x) = %d, %v; want %d", addr, f, e, want)
	}
}

func checkAsk(t *testing.T, g *Guard, addr uint32, mode int, raw api.Time, want Verdict) {
	t.Helper()
	if v, e := g.Ask(addr, mode, raw); v != want || e != api.OK {
		fail(t, "Ask(%#x, %d, %d) = %d, %v; want %d; the table is %v", addr, mode, raw, v, e, want, g.List())
	}
}

func refuseAsk(t *testing.T, g *Guard, addr uint32, mode int, raw api.Time, want api.Errno) {
	t.Helper()
	if v, e := g.Ask(addr, mode, raw); v != 0 || e != want {
		fail(t, "Ask(%#x, %d, %d) = %d, %v; want %v", addr, mode, raw, v, e, want)
	}
}

func checkList(t *testing.T, g *Guard, want ...Seen) {
	t.Helper()
	if l := g.List(); !slices.Equal(l, want) {
		fail(t, "List() = %v; want %v", l, want)
	}
}

// seen is a host that was seen last at a count, so often, with a score.
func seen(addr uint32, raw api.Time, count int, score api.Time) Seen {
	return Seen{Addr: addr, Last: raw, Count: count, Score: score}
}

// rulesOf is so many right rules, each of its own address.
func rulesOf(n int) []Rule {
	var rules []Rule
	for i := range n {
		rules = append(rules, Rule{Addr: uint32(i), Mask: math.MaxUint32, Flags: i})
	}
	return rules
}

func TestConstants(t *testing.T) {
	flags := []int{Ignore, NoServe, NoQuery, NoModify, NoPeer, Limited, Kod}
	if !slices.Equal(flags, []int{1, 2, 4, 8, 16, 32, 64}) {
		t.Error(flags)
	}
	verdicts := []Verdict{Pass, Drop, Deny, Rate}
	if !slices.Equal(verdicts, []Verdict{0, 1, 2, 3}) {
		t.Error(verdicts)
	}
}

func TestExamples(t *testing.T) {
	g := newGuard(t, Rule{0, 0, Limited + Kod}, Rule{0x0a000000, 0xff000000, NoServe})
	checkFlags(t, g, 0x0a000001, 2)
	checkFlags(t, g, 1, 96)
	for range 4 {
		checkAsk(t, g, 1, 3, 0, Pass)
	}
	checkAsk(t, g, 1, 3, 0, Rate)
	checkAsk(t, g, 1, 3, eight, Pass)
	checkAsk(t, g, 0x0a000001, 3, eight, Drop)
	checkAsk(t, g, 0x0a000001, 6, eight, Pass)
	refuseAsk(t, g, 1, 8, eight, api.ErrRange)
	checkList(t, g, seen(0x0a000001, eight, 2, 2*eight), seen(1, eight, 6, top))
}
