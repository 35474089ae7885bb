package guard

import (
	"slices"
	"testing"

	"sundial/api"
)

// askAll lets hosts ask one behind the other, each a tick later, from a count on.
func askAll(t *testing.T, g *Guard, raw api.Time, addrs ...uint32) {
	t.Helper()
	for i, addr := range addrs {
		checkAsk(t, g, addr, 3, raw+api.Time(i), Pass)
	}
}

// hosts are the addresses from one to another.
func hosts(from, to uint32) []uint32 {
	var list []uint32
	for addr := from; addr <= to; addr++ {
		list = append(list, addr)
	}
	return list
}

// checkOrder holds the table's addresses, the front first, against some.
func checkOrder(t *testing.T, g *Guard, want ...uint32) {
	t.Helper()
	var got []uint32
	for _, s := range g.List() {
		got = append(got, s.Addr)
	}
	if !slices.Equal(got, want) {
		fail(t, "the hosts are %v; want %v", got, want)
	}
}

func backwards(list []uint32) []uint32 {
	list = slices.Clone(list)
	slices.Reverse(list)
	return list
}

// P18.2, P18.4: up to 16 hosts are remembered, of more the 16 seen last; the front first.
func TestHowManyAreRemembered(t *testing.T) {
	for n := uint32(0); n < 70; n++ {
		g := newGuard(t)
		var want []Seen
		for i := range n {
			checkAsk(t, g, 1000-i, 3, api.Time(5*i), Pass)
			want = slices.Insert(want, 0, seen(1000-i, api.Time(5*i), 1, eight))
		}
		checkList(t, g, want[:min(n, 16)]...)
	}
}

// P18.3: a host that is seen again moves to the front, from wherever it is, and nobody else moves or is forgotten.
func TestSeenAgain(t *testing.T) {
	for n := uint32(1); n <= 16; n++ {
		for again := range n {
			g := newGuard(t)
			askAll(t, g, 100, hosts(0, n-1)...)
			was := g.List()
			checkAsk(t, g, again, 3, 200, Pass)
			at := n - 1 - again
			want := slices.Concat([]Seen{seen(again, 200, 2, 2*eight-(100-api.Time(again)))}, was[:at], was[at+1:])
			checkList(t, g, want...)
		}
	}
}

// A full table, where one is seen at the front, in the middle and at the end; then new ones come.
func TestAFullTable(t *testing.T) {
	g := newGuard(t)
	askAll(t, g, 0, hosts(1, 16)...)
	checkOrder(t, g, backwards(hosts(1, 16))...)
	askAll(t, g, 100, 16)
	checkOrder(t, g, backwards(hosts(1, 16))...)
	askAll(t, g, 200, 8)
	checkOrder(t, g, slices.Concat([]uint32{8}, backwards(hosts(9, 16)), backwards(hosts(1, 7)))...)
	askAll(t, g, 300, 1)
	checkOrder(t, g, slices.Concat([]uint32{1, 8}, backwards(hosts(9, 16)), backwards(hosts(2, 7)))...)
	// The one that wasn't seen for longest goes: 2, then 3.
	askAll(t, g, 400, 17, 18)
	checkOrder(t, g, slices.Concat([]uint32{18, 17, 1, 8}, backwards(hosts(9, 16)), backwards(hosts(4, 7)))...)
	askAll(t, g, 500, 4)
	askAll(t, g, 600, hosts(20, 34)...)
	checkOrder(t, g, append(backwards(hosts(20, 34)), 4)...)
	askAll(t, g, 700, 5)
	checkOrder(t, g, append([]uint32{5}, backwards(hosts(20, 34))...)...)
}

// One that was forgotten and comes again is new: its count, its score and that it was too fast are gone.
func TestForgottenAndBack(t *testing.T) {
	g := flagged(t, Limited+Kod)
	for range 4 {
		checkAsk(t, g, 99, 3, 0, Pass)
	}
	checkAsk(t, g, 99, 3, 0, Rate)
	askAll(t, g, 0, hosts(1, 15)...)
	// Fifteen others leave room for it.
	checkAsk(t, g, 99, 3, 14, Rate)
	askAll(t, g, 14, hosts(1, 16)...)
	checkOrder(t, g, backwards(hosts(1, 16))...)
	checkAsk(t, g, 99, 3, 29, Pass)
	if l := g.List(); l[0] != seen(99, 29, 1, eight) || l[15].Addr != 2 {
		fail(t, "List() = %v", l)
	}
	for range 3 {
		checkAsk(t, g, 99, 3, 29, Pass)
	}
	checkAsk(t, g, 99, 3, 29, Rate)
}

// Seventeen hosts in turn: each is forgotten just ahead of coming again, so it is ever new.
func TestSeventeenInTurn(t *testing.T) {
	g := flagged(t, Limited)
	for turn := range 20 {
		for addr := range uint32(17) {
			checkAsk(t, g, addr, 3, 0, Pass)
			if l := g.List(); l[0] != seen(addr, 0, 1, eight) || len(l) != min(16, turn*17+int(addr)+1) {
				fail(t, "List() = %v", l)
			}
		}
	}
	// Sixteen in turn are all remembered.
	g = flagged(t, Limited)
	for turn := range 10 {
		for addr := range uint32(16) {
			want := Pass
			if turn > 3 {
				want = Drop
			}
			checkAsk(t, g, addr, 3, 0, want)
		}
	}
}

// The table is by addresses as they are, not by the rules that fit them.
func TestAddressesOfOneRule(t *testing.T) {
	g := newGuard(t, Rule{0x0a000000, 0xff000000, Limited})
	addrs := []uint32{0x0a000000, 0x0a000001, 0x0affffff, 0, 1 << 31, 1<<32 - 1}
	for range 4 {
		for _, addr := range addrs {
			checkAsk(t, g, addr, 3, 9, Pass)
		}
	}
	checkOrder(t, g, backwards(addrs)...)
	for _, s := range g.List() {
		if s != seen(s.Addr, 9, 4, top) {
			fail(t, "List() = %v", g.List())
		}
	}
	for i, addr := range addrs {
		checkAsk(t, g, addr, 3, 9, []Verdict{Drop, Drop, Drop, Pass, Pass, Pass}[i])
	}
}
