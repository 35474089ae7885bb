package wire

import "sundial/api"

func isHeader(h api.Header) bool {
	return within(h.Leap, 0, 3) && isVersion(h.Version) && within(h.Mode, 0, 7) &&
		within(h.Stratum, 0, 255) && within(h.Poll, -128, 127) && within(h.Precision, -128, 127)
}

func isVersion(n int) bool { return within(n, firstVersion, lastVersion) }

func within(n, least, greatest int) bool { return least <= n && n <= greatest }

func appendHeader(b []byte, h api.Header) []byte {
	b = append(b, byte(h.Leap<<6|h.Version<<3|h.Mode), byte(h.Stratum), byte(h.Poll), byte(h.Precision))
	for _, n := range []uint32{h.RootDelay, h.RootDisp, h.RefID} {
		b = appendNumber(b, 4, uint64(n))
	}
	for _, n := range []uint64{h.Ref, h.Origin, h.Receive, h.Transmit} {
		b = appendNumber(b, 8, n)
	}
	return b
}

// header is the header that b, 48 bytes, says.
func header(b []byte) api.Header {
	return api.Header{
		Leap:      int(b[0] >> 6),
		Version:   version(b),
		Mode:      int(b[0] & 7),
		Stratum:   int(b[1]),
		Poll:      int(int8(b[2])),
		Precision: int(int8(b[3])),
		RootDelay: uint32(number(b[4:8])),
		RootDisp:  uint32(number(b[8:12])),
		RefID:     uint32(number(b[12:16])),
		Ref:       number(b[16:24]),
		Origin:    number(b[24:32]),
		Receive:   number(b[32:40]),
		Transmit:  number(b[40:48]),
	}
}

func version(b []byte) int { return int(b[0] >> 3 & 7) }

// appendNumber puts n's lower bytes behind b, as many as size says, the highest first.
func appendNumber(b []byte, size int, n uint64) []byte {
	for shift := 8 * (size - 1); shift >= 0; shift -= 8 {
		b = append(b, byte(n>>shift))
	}
	return b
}

// number is what b says, the highest byte first.
func number(b []byte) uint64 {
	n := uint64(0)
	for _, x := range b {
		n = n<<8 | uint64(x)
	}
	return n
}
