package guard

import (
	"math"
	"math/rand"
	"slices"
	"testing"
)

// P18.2: 0, if no rule fits.
func TestNoRuleFits(t *testing.T) {
	for _, addr := range []uint32{0, 1, 0x0a000001, 1 << 31, math.MaxUint32} {
		checkFlags(t, newGuard(t), addr, 0)
		checkFlags(t, newGuard(t, Rule{addr ^ 1, math.MaxUint32, 127}), addr, 0)
		checkFlags(t, newGuard(t, Rule{addr ^ 1<<31, math.MaxUint32, 127}), addr, 0)
		checkFlags(t, newGuard(t, Rule{^addr & 0x10, 0x10, 127}, Rule{^addr & 0xff000000, 0xff000000, 5}), addr, 0)
	}
}

// A rule with the Mask 0 fits every address, one with all bits its own alone.
func TestTheLeastAndTheGreatestMask(t *testing.T) {
	g := newGuard(t, Rule{0, 0, 3}, Rule{0, math.MaxUint32, 4}, Rule{math.MaxUint32, math.MaxUint32, 5}, Rule{0x0a000001, math.MaxUint32, 6})
	for addr, want := range map[uint32]int{0: 4, 1: 3, 1 << 31: 3, 0x0a000000: 3, 0x0a000001: 6, 0x0a000002: 3, 0x8a000001: 3, math.MaxUint32 - 1: 3, math.MaxUint32: 5, 0x7fffffff: 3} {
		checkFlags(t, g, addr, want)
	}
}

func TestMasksWithGaps(t *testing.T) {
	g := newGuard(t, Rule{0x00500005, 0x00f0000f, 7}, Rule{0x80000001, 0x80000001, 8})
	for addr, want := range map[uint32]int{
		0x00500005: 7, 0xff5ffff5: 8, 0x7f5ffff5: 7, 0xff5ffff4: 0, 0x7f5ffff4: 0, 0x7f4ffff5: 0, 0x7f7ffff5: 0, 0x7f5ffffd: 0,
		0x80000001: 8, 0xffffffff: 8, 0x80500005: 8, 0x80000000: 0, 1: 0, 0xfffffffe: 0, 0x7fffffff: 0,
	} {
		checkFlags(t, g, addr, want)
	}
}

// Of several the greatest Mask counts, as a number: neither how many bits it has nor where the rule stands.
func TestTheGreatestMaskCounts(t *testing.T) {
	rules := []Rule{{0, 0, 1}, {0, 1, 2}, {0, 2, 3}, {0, 0x00ffffff, 4}, {0, 0x01000000, 5}, {0, 0x7fffffff, 6}, {0, 0x80000000, 7}, {0, 0xfffffffe, 8}, {0, math.MaxUint32, 9}}
	for n := 1; n <= len(rules); n++ {
		some := slices.Clone(rules[:n])
		checkFlags(t, newGuard(t, some...), 0, n)
		slices.Reverse(some)
		checkFlags(t, newGuard(t, some...), 0, n)
		for seed := range int64(20) {
			rand.New(rand.NewSource(seed)).Shuffle(n, func(i, j int) { some[i], some[j] = some[j], some[i] })
			checkFlags(t, newGuard(t, some...), 0, n)
		}
	}
	// One that doesn't fit counts for nothing, whatever its Mask is.
	g := newGuard(t, rules...)
	for addr, want := range map[uint32]int{0: 9, 1: 8, 2: 7, 0x7fffffff: 7, 0x80000000: 6, 0x80000001: 5, 0x81000000: 4, 0x81000001: 3, 0x81000002: 2, 0x81000003: 1} {
		checkFlags(t, g, addr, want)
	}
}

// Of several with the same Mask the last one counts, though it has less flags, or none.
func TestTheLastOfOneMaskCounts(t *testing.T) {
	for _, mask := range []uint32{0, 1, 0xff000000, 0x0ff00ff0, math.MaxUint32} {
		addr := mask & 0x0a500051
		for _, flags := range [][]int{{1, 2}, {2, 1}, {127, 0}, {0, 127}, {5, 0, 6}, {6, 5, 0}, {64, 64, 3, 64, 2}} {
			var rules []Rule
			for _, f := range flags {
				// Between them stands one that fits, too, with a smaller Mask.
				rules = append(rules, Rule{addr, mask, f}, Rule{0, 0, f})
			}
			// The one of the least Mask that stands last is the same.
			checkFlags(t, newGuard(t, rules...), addr, flags[len(flags)-1])
			if mask > 0 {
				// Behind them stand one with a smaller Mask and one that doesn't fit.
				rules = append(rules, Rule{0, 0, 99}, Rule{addr ^ mask&-mask, mask, 98})
				checkFlags(t, newGuard(t, rules...), addr, flags[len(flags)-1])
			}
		}
	}
	g := newGuard(t, slices.Repeat([]Rule{{4, 4, 1}, {4, 4, 2}}, 32)...)
	checkFlags(t, g, 4, 2)
	checkFlags(t, g, 0xffffffff, 2)
	checkFlags(t, g, 0xfffffffb, 0)
}

// flagsBySorting is the chapter's words in another form: the rules sorted, then gone through bit by bit.
func flagsBySorting(rules []Rule, addr uint32) int {
	sorted := slices.Clone(rules)
	slices.Reverse(sorted)
	slices.SortStableFunc(sorted, func(a, b Rule) int { return int(int64(b.Mask) - int64(a.Mask)) })
	for _, r := range sorted {
		if isFit(r, addr) {
			return r.Flags
		}
	}
	return 0
}

func isFit(r Rule, addr uint32) bool {
	for bit := range 32 {
		if r.Mask>>bit&1 == 1 && addr>>bit&1 != r.Addr>>bit&1 {
			return false
		}
	}
	return true
}

// someRules are up to 64 right ones, many of them about the same addresses.
func someRules(r *rand.Rand) []Rule {
	var rules []Rule
	masks := []uint32{0, 1, 3, 0x80000000, 0xff000000, 0xffff0000, math.MaxUint32, r.Uint32(), r.Uint32() & r.Uint32()}
	for range r.Intn(65) {
		mask := masks[r.Intn(len(masks))]
		rules = append(rules, Rule{uint32(r.Intn(4))*0x80000001>>r.Intn(2)&mask | r.Uint32()&r.Uint32()&r.Uint32()&mask, mask, r.Intn(128)})
	}
	return rules
}

// P18.2, on random lists.
func TestFlagsOfRandomRules(t *testing.T) {
	r := rand.New(rand.NewSource(182))
	fits, none := 0, 0
	for range 3000 {
		rules := someRules(r)
		g := newGuard(t, rules...)
		checkFlagsLike(t, g, rules)
		for range 20 {
			addr := r.Uint32()
			want := flagsBySorting(rules, addr)
			checkFlags(t, g, addr, want)
			if want > 0 {
				fits++
			} else {
				none++
			}
		}
	}
	if fits < 3000 || none < 3000 {
		fail(t, "%d of the addresses have flags and %d have none: too few of one kind", fits, none)
	}
}

// Every list of up to three out of a few rules, for each address of two bits.
func TestEveryShortListOfRules(t *testing.T) {
	var few []Rule
	for _, mask := range []uint32{0, 1, 2, 3} {
		for addr := range uint32(4) {
			if addr&^mask == 0 {
				few = append(few, Rule{addr, mask, 10*int(mask) + int(addr)}, Rule{addr, mask, 0})
			}
		}
	}
	var grow func(rules []Rule)
	grow = func(rules []Rule) {
		g := newGuard(t, rules...)
		for addr := range uint32(4) {
			checkFlags(t, g, addr, flagsBySorting(rules, addr))
			checkFlags(t, g, addr|1<<31, flagsBySorting(rules, addr))
		}
		if len(rules) < 3 {
			for _, r := range few {
				grow(append(slices.Clone(rules), r))
			}
		}
	}
	grow(nil)
}
