package dance

import (
	"testing"

	"sundial/api"
)

// checkPassed holds P19.4: what a header is like that passes all tests.
func checkPassed(t *testing.T, m Memory, h api.Header, authentic, allowed bool) {
	t.Helper()
	if Tests(m, h, authentic, allowed) != 0 {
		return
	}
	distance := 8*int64(h.RootDelay) + 16*int64(h.RootDisp)
	right := h.Stratum >= 1 && h.Stratum <= 15 && distance < 1572864 && (h.RefID != m.Own || h.Stratum == 1)
	if !right || !authentic || !allowed {
		fail(t, "Tests(%+v, %+v, %v, %v) is 0", m, h, authentic, allowed)
	}
}

// P19.4: a header that passes all tests has a stratum from 1 to 15, a root distance below MaxDist, and another one's address
// as its reference, unless its stratum is 1.
func TestWhatPasses(t *testing.T) {
	passed := 0
	for stratum := -1; stratum <= 17; stratum++ {
		for _, delay := range []uint32{0, 1, 2, 3, 98304, 196606, 196607, 196608, 1<<32 - 1} {
			for _, disp := range []uint32{0, 1, 49151, 49152, 98302, 98303, 98304, 1<<32 - 1} {
				for _, id := range []uint32{6, 7, 8} {
					h := header()
					h.Stratum, h.RootDelay, h.RootDisp, h.RefID = stratum, delay, disp, id
					for flags := range 4 {
						checkPassed(t, memory(), h, flags&1 == 0, flags&2 == 0)
					}
					if Tests(memory(), h, true, true) == 0 {
						passed++
					}
				}
			}
		}
	}
	near := 0
	for _, delay := range []uint64{0, 1, 2, 3, 98304, 196606, 196607} {
		for _, disp := range []uint64{0, 1, 49151, 49152, 98302, 98303} {
			if delay+2*disp < 196608 {
				near++
			}
		}
	}
	// Of each of 15 strata two references pass, and of the first one a third.
	if want := near * (15*2 + 1); passed != want {
		fail(t, "%d headers pass; want %d", passed, want)
	}
}

// P19.4: Kiss tells the code of what Code made, for every letter at each place.
func TestKissOfWhatCodeMade(t *testing.T) {
	for a := byte('A'); a <= 'Z'; a++ {
		for b := byte('A'); b <= 'Z'; b++ {
			for c := byte('A'); c <= 'Z'; c++ {
				for d := byte('A'); d <= 'Z'; d++ {
					code := string([]byte{a, b, c, d})
					id, e := Code(code)
					if e != api.OK {
						fail(t, "Code(%q) = %v", code, e)
					}
					checkKiss(t, kiss(id), code)
				}
			}
		}
	}
}

// P19.4: and Code makes the RefID again of the code that Kiss tells.
func TestCodeOfWhatKissTold(t *testing.T) {
	for place := range 4 {
		for b := range 256 {
			if s, ok := Kiss(kiss(at(place, byte(b)))); ok {
				checkCode(t, s, at(place, byte(b)))
			}
		}
	}
}

// No kiss passes the tests: its stratum is 0.
func TestNoKissPasses(t *testing.T) {
	for place := range 4 {
		h := header()
		h.Stratum, h.RefID = 0, at(place, 'K')
		checkTests(t, memory(), h, true, true, 8)
		if _, ok := Kiss(h); !ok {
			fail(t, "%+v is no kiss", h)
		}
	}
}
