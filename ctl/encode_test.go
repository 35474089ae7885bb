package ctl

import (
	"math"
	"testing"

	"sundial/api"
)

// P10.1: which frames are right, and the bytes of those that are.

func TestBytesOfTheExample(t *testing.T) {
	b, errno := Encode(api.Frame{Version: 4, Response: true, Op: 2, Sequence: 258, Data: []byte("abc")})
	want := "\x26\x82\x01\x02\x00\x00\x00\x00\x00\x00\x00\x03\x61\x62\x63\x00"
	if string(b) != want || errno != api.OK {
		fail(t, "Encode = %x, %v; want %x, E0", b, errno, want)
	}
}

func TestBytesOfFrames(t *testing.T) {
	for want, f := range map[string]api.Frame{
		"\x1e\xb5\x81\x82\x93\x94\xa5\xa6\xb7\xb8\x00\x05\x01\x02\x03\x04\x05\x00\x00\x00": full(5),
		"\x0e\x00\x00\x00\x00\x00\x00\x00\x00\x00\x00\x00":                                 {Version: 1},
		"\x26\xff\xff\xff\xff\xff\xff\xff\xff\xff\x00\x00":                                 {Version: 4, Response: true, Error: true, More: true, Op: 31, Sequence: 65535, Status: 65535, Assoc: 65535, Offset: 65535},
		"\x16\x40\x00\x01\x00\x02\x00\x03\x00\x04\x00\x01\xff\x00\x00\x00":                 {Version: 2, Error: true, Sequence: 1, Status: 2, Assoc: 3, Offset: 4, Data: []byte{255}},
		"\x1e\x20\x01\x00\x02\x00\x03\x00\x04\x00\x00\x04four":                             {Version: 3, More: true, Sequence: 256, Status: 512, Assoc: 768, Offset: 1024, Data: []byte("four")},
	} {
		if b, errno := Encode(f); string(b) != want || errno != api.OK {
			fail(t, "Encode(%v) = %x, %v; want %x, E0", f, b, errno, want)
		}
		checkRight(t, f)
	}
}

func TestEveryNumberOfAFrame(t *testing.T) {
	for _, n := range frameNumbers {
		for _, f := range samples() {
			x := n.at(&f)
			for _, *x = range []int{n.least, n.least + 1, (n.least + n.greatest) / 2, n.greatest - 1, n.greatest} {
				checkRight(t, f)
			}
			for _, *x = range []int{
				n.least - 1, n.greatest + 1, n.least - 32, n.greatest + 32, n.least - 65536, n.greatest + 65536, n.least + 65536,
				n.least + 1<<32, math.MinInt, math.MaxInt, math.MinInt + n.greatest,
			} {
				checkWrong(t, f)
			}
		}
	}
}

func TestEveryVersionAndOp(t *testing.T) {
	for version := -9; version < 70; version++ {
		for op := -33; op < 300; op++ {
			f := full(3)
			f.Version, f.Op = version, op
			checkFrame(t, f, version >= 1 && version <= 4 && op >= 0 && op <= 31)
		}
	}
}

func TestEveryTwoNumbersOfAFrameAtTheirEdges(t *testing.T) {
	for _, one := range frameNumbers {
		for _, two := range frameNumbers {
			for _, x := range []int{one.least - 1, one.least, one.greatest, one.greatest + 1} {
				for _, y := range []int{two.least - 1, two.least, two.greatest, two.greatest + 1} {
					f := full(4)
					*one.at(&f) = x
					*two.at(&f) = y
					z := *one.at(&f)
					checkFrame(t, f, z >= one.least && z <= one.greatest && y >= two.least && y <= two.greatest)
				}
			}
		}
	}
}

func TestEveryFlagOfAFrame(t *testing.T) {
	for ways := range 8 {
		for op := range 32 {
			f := full(1)
			f.Op = op
			want := byte(op)
			for i, flag := range frameFlags {
				*flag.at(&f) = ways>>i&1 == 1
				if ways>>i&1 == 1 {
					want += flag.bit
				}
			}
			checkRight(t, f)
			if b, _ := Encode(f); len(b) != 16 || b[1] != want {
				fail(t, "Encode(%v) = %x; want %x at 1", f, b, want)
			}
		}
	}
}

func TestDataOfEveryLength(t *testing.T) {
	for n := range 600 {
		f := full(n)
		checkFrame(t, f, n <= 468)
		if b, _ := Encode(f); n <= 468 && len(b) != 12+n+(4-n%4)%4 {
			fail(t, "of %d bytes Encode makes %d", n, len(b))
		}
	}
	for _, n := range []int{936, 65535, 65536, 65540, 1 << 20} {
		checkWrong(t, full(n))
	}
	for _, data := range [][]byte{nil, {}, {0}, {0, 0, 0, 0}, make([]byte, 467), make([]byte, 468)} {
		f := full(0)
		f.Data = data
		checkRight(t, f)
	}
}
