package dance

import (
	"math/big"
	"math/rand"
	"regexp"
	"testing"

	"sundial/api"
)

var (
	threeHalves = big.NewRat(3, 2)
	around      = new(big.Int).Lsh(big.NewInt(1), 64)
	halfAround  = new(big.Int).Lsh(big.NewInt(1), 63)
	fourLetters = regexp.MustCompile(`^[A-Z]{4}$`)
)

// rootDistance is a header's, in seconds: short forms are in parts of 65536 of one.
func rootDistance(h api.Header) *big.Rat {
	delay, disp := big.NewRat(int64(h.RootDelay), 65536), big.NewRat(int64(h.RootDisp), 65536)
	return disp.Add(disp, delay.Mul(delay, big.NewRat(1, 2)))
}

// isLater tells whether a stamp is later than another one, by numbers that don't go round.
func isLater(a, b uint64) bool {
	ahead := new(big.Int).Sub(new(big.Int).SetUint64(a), new(big.Int).SetUint64(b))
	ahead.Mod(ahead, around)
	return ahead.Sign() > 0 && ahead.Cmp(halfAround) < 0
}

// failing is what Tests has to tell, said in another way: test by test, what a header has to be like in order to pass.
func failing(m Memory, h api.Header, authentic, allowed bool) int {
	asked := h.Origin == m.Sent && m.Sent != 0
	stamped := h.Transmit != 0
	if h.Mode == 5 {
		asked = true
	} else if h.Receive == 0 {
		stamped = false
	}
	strata := map[int]bool{1: true, 2: true, 3: true, 4: true, 5: true, 6: true, 7: true, 8: true, 9: true, 10: true,
		11: true, 12: true, 13: true, 14: true, 15: true}
	sum := 511
	for i, passed := range []bool{
		h.Transmit == 0 || h.Transmit != m.Heard,
		asked,
		stamped,
		strata[h.Stratum] && h.Leap != 3,
		rootDistance(h).Cmp(threeHalves) < 0,
		!isLater(h.Ref, h.Transmit),
		h.RefID != m.Own || h.Stratum <= 1,
		authentic,
		allowed,
	} {
		if passed {
			sum &^= 1 << i
		}
	}
	return sum
}

func pick[T any](r *rand.Rand, list ...T) T { return list[r.Intn(len(list))] }

// randomStamp is often one of those that are handed in, or next to it.
func randomStamp(r *rand.Rand, near ...uint64) uint64 {
	near = append(near, 0, 1, 5, 9, 1<<63, 1<<64-1)
	switch s := pick(r, near...); r.Intn(6) {
	case 0:
		return r.Uint64()
	case 1:
		return s + 1
	case 2:
		return s - 1
	case 3:
		return s + 1<<63 - uint64(r.Intn(3)) + 1
	default:
		return s
	}
}

func randomShort(r *rand.Rand) uint32 {
	switch r.Intn(4) {
	case 0:
		return r.Uint32()
	case 1:
		return uint32(r.Intn(200000))
	default:
		return pick[uint32](r, 0, 1, 2, 3, 49151, 49152, 98302, 98303, 98304, 98305, 196605, 196606, 196607, 196608, 1<<31, 1<<32-1)
	}
}

func randomHeader(r *rand.Rand, m Memory) api.Header {
	h := api.Header{
		Leap:      pick(r, 0, 0, 1, 2, 3, pick(r, someInts...)),
		Version:   r.Intn(8),
		Mode:      pick(r, 1, 2, 4, 5, 5, pick(r, someInts...)),
		Stratum:   pick(r, 0, 1, 2, 2, 3, 15, 16, pick(r, someInts...)),
		Poll:      pick(r, someInts...),
		Precision: pick(r, someInts...),
		RootDelay: randomShort(r),
		RootDisp:  randomShort(r),
		RefID:     pick(r, m.Own, m.Own+1, 7, 0x52415445, r.Uint32()),
		Origin:    randomStamp(r, m.Sent, m.Sent, m.Sent, m.Heard),
		Receive:   randomStamp(r, m.Sent),
		Transmit:  randomStamp(r, m.Heard, m.Sent),
	}
	h.Ref = randomStamp(r, h.Transmit, h.Transmit)
	return h
}

func randomMemory(r *rand.Rand) Memory {
	return Memory{Own: pick(r, 0, 7, r.Uint32()), Sent: randomStamp(r), Heard: randomStamp(r)}
}

// checkAll holds what the calls of a header answer against what they have to, in another form.
func checkAll(t *testing.T, m Memory, h api.Header, authentic, allowed bool) {
	t.Helper()
	checkTests(t, m, h, authentic, allowed, failing(m, h, authentic, allowed))
	code := string(big.NewInt(int64(h.RefID)).FillBytes(make([]byte, 4)))
	if h.Mode == 4 && h.Stratum == 0 && fourLetters.MatchString(code) {
		checkKiss(t, h, code)
	} else {
		refuseKiss(t, h)
	}
	checkPassed(t, m, h, authentic, allowed)
}

// P19.2, P19.3: against their words in another form, of any headers.
func TestAgainstAnotherForm(t *testing.T) {
	r := rand.New(rand.NewSource(19))
	seen := map[int]bool{}
	for range 300000 {
		m := randomMemory(r)
		h := randomHeader(r, m)
		authentic, allowed := r.Intn(3) > 0, r.Intn(3) > 0
		checkAll(t, m, h, authentic, allowed)
		seen[Tests(m, h, authentic, allowed)] = true
	}
	for bit := range 9 {
		if !seen[1<<bit] {
			fail(t, "no header fails by test %d alone", bit+1)
		}
	}
	if !seen[0] {
		fail(t, "no header passes")
	}
}

// P19.3: Code against its words in another form.
func checkCodeBoth(t *testing.T, s string) {
	t.Helper()
	if fourLetters.MatchString(s) {
		checkCode(t, s, uint32(new(big.Int).SetBytes([]byte(s)).Uint64()))
	} else {
		refuseCode(t, s)
	}
}

func TestCodeAgainstAnotherForm(t *testing.T) {
	letters := []string{"A", "B", "M", "Y", "Z", "@", "[", "a", "z", "0", "9", " ", "\n", "Ä", "\x80", "\xff", "€", ""}
	for _, a := range letters {
		for _, b := range letters {
			for _, c := range letters {
				for _, d := range letters {
					checkCodeBoth(t, a+b+c+d)
					checkCodeBoth(t, a+b+c+d+"A")
				}
			}
		}
	}
}

func FuzzAll(f *testing.F) {
	f.Add(0, 4, 2, uint32(0), uint32(0), uint32(0), uint64(4), uint64(9), uint64(1), uint64(5), uint32(7), uint64(9), uint64(0), byte(3), "RATE")
	f.Fuzz(func(t *testing.T, leap, mode, stratum int, delay, disp, id uint32, ref, origin, receive, transmit uint64,
		own uint32, sent, heard uint64, flags byte, text string) {
		h := api.Header{Leap: leap, Version: 4, Mode: mode, Stratum: stratum, RootDelay: delay, RootDisp: disp, RefID: id,
			Ref: ref, Origin: origin, Receive: receive, Transmit: transmit}
		checkAll(t, Memory{Own: own, Sent: sent, Heard: heard}, h, flags&1 == 1, flags&2 == 2)
		checkCodeBoth(t, text)
		if row, ok := table[leap]; ok && mode >= 1 && mode <= 5 {
			checkDispatch(t, leap, mode, row[mode-1])
		} else {
			refuseDispatch(t, leap, mode)
		}
	})
}
