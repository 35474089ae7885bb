package ctl

import "sundial/api"

const (
	// controlMode is the mode of control frames.
	controlMode = 6

	// The versions that are spoken.
	firstVersion = 1
	lastVersion  = 4

	// What stands above the Op in the second byte.
	responseBit = 128
	errorBit    = 64
	moreBit     = 32

	maxOp     = moreBit - 1
	maxNumber = 65535

	// frontLength is the bytes of a frame ahead of its data.
	frontLength = 12

	// unit is what the lengths of frames are multiples of.
	unit = 4
)

func isFrame(f api.Frame) bool {
	return isVersion(f.Version) && within(f.Op, 0, maxOp) &&
		isNumber(f.Sequence) && isNumber(f.Status) && isNumber(f.Assoc) && isNumber(f.Offset) &&
		len(f.Data) <= api.MaxBody
}

func isVersion(n int) bool { return within(n, firstVersion, lastVersion) }

// isNumber tells whether n has room in two bytes.
func isNumber(n int) bool { return within(n, 0, maxNumber) }

func within(n, least, greatest int) bool { return least <= n && n <= greatest }

// frameLength is the bytes of a frame with n bytes of data.
func frameLength(n int) int { return frontLength + (n+unit-1)/unit*unit }

// appendFront puts what stands ahead of f's data behind b.
func appendFront(b []byte, f api.Frame) []byte {
	b = append(b, byte(f.Version<<3|controlMode))
	b = append(b, bit(f.Response, responseBit)|bit(f.Error, errorBit)|bit(f.More, moreBit)|byte(f.Op))
	for _, n := range []int{f.Sequence, f.Status, f.Assoc, f.Offset, len(f.Data)} {
		b = append(b, byte(n>>8), byte(n))
	}
	return b
}

// bit is value, if on is true, else 0.
func bit(on bool, value byte) byte {
	if on {
		return value
	}
	return 0
}

// front is the frame that b says, but for its data.
func front(b []byte) api.Frame {
	return api.Frame{
		Version:  version(b),
		Response: b[1]&responseBit != 0,
		Error:    b[1]&errorBit != 0,
		More:     b[1]&moreBit != 0,
		Op:       int(b[1] & maxOp),
		Sequence: number(b[2:4]),
		Status:   number(b[4:6]),
		Assoc:    number(b[6:8]),
		Offset:   number(b[8:10]),
	}
}

func version(b []byte) int { return int(b[0] >> 3 & 7) }

// dataLength is how many bytes of data b tells.
func dataLength(b []byte) int { return number(b[10:12]) }

// number is what two bytes say, the highest first.
func number(b []byte) int { return int(b[0])<<8 | int(b[1]) }

func areNoughts(b []byte) bool {
	for _, x := range b {
		if x != 0 {
			return false
		}
	}
	return true
}
