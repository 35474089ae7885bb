package guard

import (
	"math/rand"
	"slices"
	"sync"
	"testing"

	"sundial/api"
)

// P18.5: writing into the rules that were handed in changes no later answer.
func TestRulesAreNotKept(t *testing.T) {
	for _, n := range []int{1, 2, 3, 63, 64} {
		rules := rulesOf(n)
		g := newGuard(t, rules...)
		was := slices.Clone(rules)
		for i := range rules {
			rules[i] = Rule{0, 0, Ignore}
		}
		checkFlagsLike(t, g, was)
		checkFlags(t, g, 1<<30, 0)
		checkAsk(t, g, 1<<30, 3, 0, Pass)
	}
}

// Rule 3: what is handed in stays, and what stands ahead of it and behind it.
func TestRulesStay(t *testing.T) {
	for _, n := range []int{0, 1, 2, 63, 64, 65} {
		for _, bad := range []bool{false, true} {
			all := rulesOf(n + 20)
			if bad && n > 0 {
				all[10+n/2].Flags = -1
			}
			was := slices.Clone(all)
			g, _ := New(all[10 : 10+n])
			for i := range 20 {
				g.Flags(uint32(i))
				g.Ask(uint32(i), 3, api.Time(i))
				g.List()
			}
			if !slices.Equal(all, was) {
				fail(t, "the calls with %v have changed it to %v", was, all)
			}
		}
	}
}

// P18.5: writing into what List answered, and into its spare room, changes no later answer, nor one that was there.
func TestListsAreNewMemory(t *testing.T) {
	for _, n := range []uint32{0, 1, 2, 15, 16, 17} {
		g, other := flagged(t, Limited+Kod), flagged(t, Limited+Kod)
		for addr := range n {
			checkAsk(t, g, addr, 3, 100, Pass)
			checkAsk(t, other, addr, 3, 100, Pass)
		}
		one, two := g.List(), g.List()
		one = one[:cap(one)]
		for i := range one {
			one[i] = seen(7777, last, -5, -last)
		}
		checkList(t, g, two...)
		checkAlike(t, g, other, 100)
	}
}

// A list tells how it was; what comes later changes it no more.
func TestListsStay(t *testing.T) {
	g := newGuard(t)
	askAll(t, g, 0, hosts(1, 16)...)
	list := g.List()
	was := slices.Clone(list)
	askAll(t, g, 50, 16, 3, 40, 41)
	if !slices.Equal(list, was) {
		fail(t, "%v has become %v", was, list)
	}
}

// checkAlike holds two guards against one another, by their tables and by what some hosts are told then.
func checkAlike(t *testing.T, a, b *Guard, raw api.Time) {
	t.Helper()
	checkList(t, a, b.List()...)
	for _, addr := range []uint32{0, 1, 7, 15, 16, 7777, 0, 1, 0, 1, 0, 1, 0, 1} {
		f, _ := b.Flags(addr)
		checkFlags(t, a, addr, f)
		v, e := b.Ask(addr, 3, raw)
		if w, f := a.Ask(addr, 3, raw); w != v || f != e {
			fail(t, "Ask(%d, 3, %d) = %d, %v; want %d, %v", addr, raw, w, f, v, e)
		}
		checkList(t, a, b.List()...)
	}
}

// disturb asks what changes nothing: flags, lists, and Asks to which an error is the answer.
func disturb(t *testing.T, g *Guard, raw api.Time) {
	t.Helper()
	was := g.List()
	for _, addr := range []uint32{0, 1, 5, 16, 99} {
		g.Flags(addr)
		for _, mode := range []int{-1, 8, 100} {
			refuseAsk(t, g, addr, mode, raw, api.ErrRange)
			refuseAsk(t, g, addr, mode, last, api.ErrRange)
		}
		for mode := range 8 {
			refuseAsk(t, g, addr, mode, raw-1, api.ErrRange)
			refuseAsk(t, g, addr, mode, last+1, api.ErrRange)
			refuseAsk(t, g, addr, mode, lowest, api.ErrRange)
			refuseAsk(t, g, addr, mode, most, api.ErrRange)
		}
	}
	checkList(t, g, was...)
}

// P18.2, P18.3: a guard that is asked, and told what is refused, is from then on like one that isn't.
func TestErrorsFlagsAndListsChangeNothing(t *testing.T) {
	r := rand.New(rand.NewSource(183))
	for range 100 {
		rules := someRules(r)
		quiet, asked := newGuard(t, rules...), newGuard(t, rules...)
		raw := api.Time(0)
		disturb(t, asked, raw)
		for range 40 {
			raw += api.Time(r.Int63n(int64(6 * second)))
			addr, mode := uint32(r.Intn(18)), r.Intn(8)
			want, e := quiet.Ask(addr, mode, raw)
			if v, f := asked.Ask(addr, mode, raw); v != want || f != e {
				fail(t, "Ask(%d, %d, %d) = %d, %v; want %d, %v", addr, mode, raw, v, f, want, e)
			}
			disturb(t, asked, raw)
		}
		checkAlike(t, asked, quiet, raw)
	}
}

// Rule 4: what one guard has seen says nothing to another one, though both have the same rules.
func TestGuardsAreApart(t *testing.T) {
	rules := []Rule{{Flags: Limited}}
	one, other := newGuard(t, rules...), newGuard(t, rules...)
	for range 4 {
		checkAsk(t, one, 9, 3, 1000, Pass)
	}
	checkList(t, other)
	checkAsk(t, other, 9, 3, 5, Pass)
	checkAsk(t, one, 9, 3, 1000, Drop)
	checkList(t, other, seen(9, 5, 1, eight))
	checkList(t, one, seen(9, 1000, 5, top))
}

// One guard is only looked at, and many are asked, side by side.
func TestSideBySide(t *testing.T) {
	shared := flagged(t, 96)
	askAll(t, shared, 0, hosts(1, 16)...)
	want := shared.List()
	var all sync.WaitGroup
	for i := range 8 {
		all.Go(func() {
			g, _ := New([]Rule{{Flags: Limited}})
			for n := range 200 {
				if f, e := shared.Flags(uint32(n)); f != 96 || e != api.OK || !slices.Equal(shared.List(), want) {
					t.Errorf("Flags(%d) = %d, %v", n, f, e)
				}
				if v, e := g.Ask(uint32(i), 3, api.Time(n)*eight); v != Pass || e != api.OK {
					t.Errorf("Ask = %d, %v", v, e)
				}
			}
		})
	}
	all.Wait()
}
