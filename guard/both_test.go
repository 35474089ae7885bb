package guard

import (
	"math/rand"
	"slices"
	"testing"

	"sundial/api"
)

// visitor is a host as the chapter's words may be said in another way: by when its score would be 0 again.
type visitor struct {
	addr    uint32
	turn    int // of how many Asks the last one was its own
	last    api.Time
	count   int
	idle    api.Time // the count at which its score is 0
	tooFast bool
}

// book is a guard of that kind; its visitors stand in no order.
type book struct {
	rules    []Rule
	visitors []visitor
	turns    int
	last     api.Time
}

func (b *book) ask(addr uint32, mode int, raw api.Time) (Verdict, api.Errno) {
	if mode < 0 || mode > 7 || raw < b.last || raw < 0 || raw > last {
		return 0, api.ErrRange
	}
	b.last = raw
	b.turns++
	at := slices.IndexFunc(b.visitors, func(v visitor) bool { return v.addr == addr })
	if at < 0 {
		b.forget()
		at = len(b.visitors)
		b.visitors = append(b.visitors, visitor{addr: addr})
	}
	v := &b.visitors[at]
	v.turn, v.last = b.turns, raw
	v.count++
	v.idle = max(v.idle, raw) + eight
	v.tooFast = v.idle > raw+top
	v.idle = min(v.idle, raw+top)
	return firstThatApplies(flagsBySorting(b.rules, addr), mode, v.tooFast), api.OK
}

// forget makes room for one.
func (b *book) forget() {
	if len(b.visitors) < 16 {
		return
	}
	longest := b.visitors[0]
	for _, v := range b.visitors {
		if v.turn < longest.turn {
			longest = v
		}
	}
	b.visitors = slices.DeleteFunc(b.visitors, func(v visitor) bool { return v == longest })
}

func (b *book) list() []Seen {
	sorted := slices.Clone(b.visitors)
	slices.SortFunc(sorted, func(v, w visitor) int { return w.turn - v.turn })
	var list []Seen
	for _, v := range sorted {
		list = append(list, seen(v.addr, v.last, v.count, v.idle-v.last))
	}
	return list
}

// checkBoth asks a guard and a book, and holds their tables against one another.
func checkBoth(t *testing.T, g *Guard, b *book, addr uint32, mode int, raw api.Time) (Verdict, api.Errno) {
	t.Helper()
	want, e := b.ask(addr, mode, raw)
	if v, f := g.Ask(addr, mode, raw); v != want || f != e {
		fail(t, "Ask(%#x, %d, %d) = %d, %v; want %d, %v; the table is %v", addr, mode, raw, v, f, want, e, g.List())
	}
	checkList(t, g, b.list()...)
	checkLaws(t, g)
	return want, e
}

// P18.4
func checkLaws(t *testing.T, g *Guard) {
	t.Helper()
	list := g.List()
	if len(list) > api.MaxSeen {
		fail(t, "%d hosts: %v", len(list), list)
	}
	addrs := make(map[uint32]int)
	for i, s := range list {
		addrs[s.Addr]++
		if addrs[s.Addr] > 1 || i > 0 && s.Last > list[i-1].Last || s.Count < 1 || s.Score < eight || s.Score > top {
			fail(t, "the host %d of %v isn't right", i, list)
		}
	}
}

// someLater is how much later an Ask comes: often just where a score becomes another kind.
func someLater(r *rand.Rand) api.Time {
	switch r.Intn(36) {
	case 0, 1, 2, 3, 4, 5:
		return 0
	case 6:
		return -api.Time(r.Int63n(1 << r.Intn(50)))
	case 7:
		return eight + api.Time(r.Intn(3)-1)
	case 8:
		return top + api.Time(r.Intn(3)-1)
	case 9:
		return api.Time(r.Int63n(1 << r.Intn(54)))
	}
	return api.Time(r.Intn(2 << r.Intn(22)))
}

// P18.2 to P18.4, over many Asks one behind the other, by few hosts and by more than are remembered.
func TestRandomAsks(t *testing.T) {
	verdicts, refused := make(map[Verdict]int), 0
	for seed := range int64(600) {
		r := rand.New(rand.NewSource(seed))
		rules := someRules(r)
		if r.Intn(2) == 0 {
			rules = []Rule{{Flags: Limited + r.Intn(2)*Kod}}
		}
		g, b := newGuard(t, rules...), &book{rules: rules}
		many := 1 + r.Intn(24)
		for range 200 {
			mode, raw := 1+r.Intn(6), b.last+someLater(r)
			if r.Intn(8) == 0 {
				mode = r.Intn(12) - 2
			}
			if v, e := checkBoth(t, g, b, uint32(r.Intn(many))*0x40000001, mode, raw); e == api.OK {
				verdicts[v]++
			} else {
				refused++
			}
		}
	}
	if refused < 5000 || min(verdicts[Pass], verdicts[Drop], verdicts[Deny], verdicts[Rate]) < 1000 {
		fail(t, "%d Asks are refused, the verdicts are %v: too few of one kind", refused, verdicts)
	}
}

// Every short way of one host: how much later it asks each time.
func TestEveryShortWay(t *testing.T) {
	steps := []api.Time{0, 1, eight - 1, eight, eight + 1, top - 1, top, top + 1}
	var grow func(g Guard, b book, raw api.Time, left int)
	grow = func(g Guard, b book, raw api.Time, left int) {
		if left == 0 {
			return
		}
		for _, step := range steps {
			one, two := g, b
			two.visitors = slices.Clone(b.visitors)
			checkBoth(t, &one, &two, 9, 3, raw+step)
			grow(one, two, raw+step, left-1)
		}
	}
	rules := []Rule{{Flags: Limited + Kod}}
	grow(*newGuard(t, rules...), book{rules: rules}, 0, 5)
}

// Behind four Asks at one count, so that few more are needed to be too fast.
func TestEveryShortWayOfAQuickHost(t *testing.T) {
	steps := []api.Time{-1, 0, 1, eight - 1, eight, eight + 1}
	for a := range 6 * 6 * 6 * 6 {
		rules := []Rule{{Flags: Limited}}
		g, b, raw := newGuard(t, rules...), &book{rules: rules}, api.Time(5)
		for range 4 {
			checkBoth(t, g, b, 9, 3, raw)
		}
		for i := a; i > 0; i /= 6 {
			if _, e := checkBoth(t, g, b, 9, 3, raw+steps[i%6]); e == api.OK {
				raw += steps[i%6]
			}
		}
	}
}

func FuzzGuard(f *testing.F) {
	f.Add(uint32(0), uint32(0), 96, []byte{0x13, 0x13, 0x13, 0x13, 0x13, 0x93})
	f.Add(uint32(1), uint32(3), 2, []byte("one host and another"))
	f.Fuzz(func(t *testing.T, addr, mask uint32, flags int, asks []byte) {
		rules := []Rule{{addr, mask, flags}, {Flags: 127 - flags&127}}
		if addr&mask != addr || flags != flags&127 {
			refuseNew(t, rules)
			return
		}
		g, b := newGuard(t, rules...), &book{rules: rules}
		for _, a := range asks {
			checkFlags(t, g, addr+uint32(a), flagsBySorting(rules, addr+uint32(a)))
			checkBoth(t, g, b, addr+uint32(a>>4), int(a&15)-1, b.last+api.Time(a&0xf0)<<18-second)
			checkBoth(t, g, b, addr+uint32(a>>4), int(a&7), b.last+api.Time(a)<<15)
		}
	})
}
