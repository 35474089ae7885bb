package dance

import (
	"math"
	"strings"
	"testing"

	"sundial/api"
)

// at is a RefID of four letters A, but for the byte at a place, the highest being 0.
func at(place int, b byte) uint32 {
	shift := 8 * (3 - place)
	return 0x41414141&^(0xff<<shift) | uint32(b)<<shift
}

// P19.3: each of a RefID's four bytes has to be a capital letter, and is told at its place.
func TestKissByEachByte(t *testing.T) {
	for place := range 4 {
		for b := range 256 {
			h := kiss(at(place, byte(b)))
			if b < 0x41 || b > 0x5a {
				refuseKiss(t, h)
				continue
			}
			checkKiss(t, h, strings.Repeat("A", place)+string(rune(b))+strings.Repeat("A", 3-place))
		}
		for b, ok := range map[byte]bool{0x40: false, 0x41: true, 0x5a: true, 0x5b: false} {
			if s, is := Kiss(kiss(at(place, b))); is != ok || ok && s[place] != b {
				fail(t, "Kiss of %#x at %d = %q, %v", b, place, s, is)
			}
		}
	}
	for _, id := range []uint32{0, 7, 0x0a000001, 0x7f000001, math.MaxUint32, 0x52415400, 0x00524154, 0x72617465, 0x52415465} {
		refuseKiss(t, kiss(id))
	}
}

// P19.3: the highest byte is the code's first letter.
func TestKissOfCodes(t *testing.T) {
	checkKiss(t, kiss(0x44454e59), "DENY")
	checkKiss(t, kiss(0x52535452), "RSTR")
	checkKiss(t, kiss(0x52415445), "RATE")
	checkKiss(t, kiss(0x41424344), "ABCD")
	checkKiss(t, kiss(0x5a595857), "ZYXW")
	checkKiss(t, kiss(0x41414141), "AAAA")
	checkKiss(t, kiss(0x5a5a5a5a), "ZZZZ")
}

// P19.3: a header of another Mode or Stratum is no kiss.
func TestKissOfOtherModesAndStrata(t *testing.T) {
	const rate = 0x52415445
	for _, n := range someInts {
		for _, m := range someInts {
			h := api.Header{Mode: n, Stratum: m, RefID: rate}
			if n == 4 && m == 0 {
				checkKiss(t, h, "RATE")
			} else {
				refuseKiss(t, h)
			}
		}
	}
}

// P19.3: what else stands in a header doesn't make it a kiss, nor keep it from being one.
func TestKissWhateverElseStandsThere(t *testing.T) {
	for _, n := range someInts {
		h := api.Header{Leap: n, Version: n, Mode: 4, Poll: n, Precision: n, RootDelay: uint32(n), RootDisp: uint32(n),
			RefID: 0x44454e59, Ref: uint64(n), Origin: uint64(n), Receive: uint64(n), Transmit: uint64(n)}
		checkKiss(t, h, "DENY")
		h.Stratum = 2
		refuseKiss(t, h)
		h.Stratum, h.RefID = 0, uint32(n)
		refuseKiss(t, h)
	}
}

// P19.3: the RefID of a code has its letters as its bytes, the first as the highest.
func TestCode(t *testing.T) {
	checkCode(t, "RATE", 0x52415445)
	checkCode(t, "DENY", 0x44454e59)
	checkCode(t, "RSTR", 0x52535452)
	checkCode(t, "AAAA", 0x41414141)
	checkCode(t, "ZZZZ", 0x5a5a5a5a)
	checkCode(t, "ABCD", 0x41424344)
	checkCode(t, "AAAZ", 0x4141415a)
	checkCode(t, "ZAAA", 0x5a414141)
}

// P19.3: a text that isn't four capital letters A to Z is refused.
func TestCodeOfOtherTexts(t *testing.T) {
	for _, s := range []string{
		"", "R", "RA", "RAT", "RATES", "RATERATE", " RATE", "RATE ", "RATE\x00", "RATE\n", strings.Repeat("A", api.MaxText),
		"rate", "Rate", "RATe", "rATE", "R1TE", "1234", "RAT1", "0RAT", "R TE", "RA-E", "RA_E", "RAT.", "\"ATE", "RAT\x00", "    ",
		"@AAA", "AAA@", "[AAA", "AAA[", "`AAA", "{AAA",
		"É", "ÄB", "ÄBC", "ÄBCD", "ABCÄ", "ÄÄ", "ÄÄÄÄ", "€A", "A€", "€", "𐀀", "𐀀AAA", "ＡＢＣＤ", "АВСЕ", "ÀÁÂÃ",
		"\xff\xff\xff\xff", "\xffAAA", "AAA\xff", "AA\xc3", "AA\xc3\xc3", "\xc1AAA", "\xda\xda\xda\xda", "\xed\xa0\x80A", "AAAA\xff",
		"\x80AAA", "A\xc1\x81A",
	} {
		refuseCode(t, s)
	}
}

// P19.3: each of the four bytes has to be a capital letter.
func TestCodeByEachByte(t *testing.T) {
	for place := range 4 {
		for b := range 256 {
			text := []byte("AAAA")
			text[place] = byte(b)
			if b < 'A' || b > 'Z' {
				refuseCode(t, string(text))
			} else {
				checkCode(t, string(text), at(place, byte(b)))
			}
		}
	}
}
