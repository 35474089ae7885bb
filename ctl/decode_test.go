package ctl

import (
	"bytes"
	"encoding/binary"
	"slices"
	"testing"

	"sundial/api"
)

// P10.1: what bytes are a frame, and which one.

// turned is b with x at that place.
func turned(b []byte, at int, x byte) []byte {
	b = bytes.Clone(b)
	b[at] = x
	return b
}

// told is the bytes of full's frame that tells so many bytes of data, and has so many bytes behind the first 12.
func told(data, behind int) []byte {
	b := append(written(full(0)), rising(behind, 1)...)
	binary.BigEndian.PutUint16(b[10:], uint16(data))
	return b
}

func TestDecodeOfTheExamples(t *testing.T) {
	f := api.Frame{Version: 4, Response: true, Op: 2, Sequence: 258, Data: []byte("abc")}
	b := []byte("\x26\x82\x01\x02\x00\x00\x00\x00\x00\x00\x00\x03\x61\x62\x63\x00")
	checkDecoded(t, b, f)
	checkRefused(t, turned(b, 15, 1), api.ErrShape)
	checkRefused(t, turned(b, 0, 0x23), api.ErrMode)
	checkRefused(t, b[:12], api.ErrShape)
}

func TestDecodedFrames(t *testing.T) {
	checkDecoded(t, []byte("\x1e\xb5\x81\x82\x93\x94\xa5\xa6\xb7\xb8\x00\x05\x01\x02\x03\x04\x05\x00\x00\x00"), full(5))
	checkDecoded(t, []byte("\x0e\x00\x00\x00\x00\x00\x00\x00\x00\x00\x00\x00"), api.Frame{Version: 1})
	all := api.Frame{Version: 4, Response: true, Error: true, More: true, Op: 31, Sequence: 65535, Status: 65535, Assoc: 65535, Offset: 65535}
	checkDecoded(t, []byte("\x26\xff\xff\xff\xff\xff\xff\xff\xff\xff\x00\x00"), all)
	checkRefused(t, bytes.Repeat([]byte{255}, 12), api.ErrMode)
	checkRefused(t, bytes.Repeat([]byte{0x26}, 12), api.ErrShape)
}

func TestBytesOfEveryLength(t *testing.T) {
	for n := range 600 {
		for _, b := range [][]byte{make([]byte, n), rising(n, 0x26), append(written(full(468)), make([]byte, 120)...)[:n], append(written(full(0)), make([]byte, 600)...)[:n]} {
			checkBytes(t, b)
			if n < 12 || n%4 != 0 {
				checkRefused(t, b, api.ErrShort)
			}
		}
	}
	checkRefused(t, nil, api.ErrShort)
	checkRefused(t, []byte{}, api.ErrShort)
	checkDecoded(t, written(full(468)), full(468))
	checkDecoded(t, append(written(full(465)), make([]byte, 4)...)[:480], full(465))
	for _, n := range []int{484, 488, 1024, 65536, 65548, 65552, 1 << 20} {
		checkRefused(t, append(written(full(468)), make([]byte, n-480)...), api.ErrShape)
	}
	checkRefused(t, append(written(full(468)), make([]byte, 1<<20+1)...), api.ErrShort)
}

func TestEveryFirstByte(t *testing.T) {
	for x := range 256 {
		for _, n := range []int{0, 3, 468} {
			f := full(n)
			b := turned(written(f), 0, byte(x))
			switch f.Version = x / 8 % 8; {
			case x%8 != 6:
				checkRefused(t, b, api.ErrMode)
			case f.Version < 1 || f.Version > 4:
				checkRefused(t, b, api.ErrVersion)
			case x >= 64:
				checkRefused(t, b, api.ErrShape)
			default:
				checkDecoded(t, b, f)
			}
		}
	}
}

func TestEverySecondByte(t *testing.T) {
	for x := range 256 {
		f := full(2)
		f.Response, f.Error, f.More, f.Op = x&128 != 0, x&64 != 0, x&32 != 0, x&31
		checkDecoded(t, turned(written(full(2)), 1, byte(x)), f)
	}
}

// Each byte of a frame takes every value.
func TestEveryByteOfAFrame(t *testing.T) {
	for _, f := range []api.Frame{full(0), full(1), full(3), full(4), full(5)} {
		b := written(f)
		for at := range b {
			for x := range 256 {
				checkBytes(t, turned(b, at, byte(x)))
			}
		}
	}
}

func TestToldLengths(t *testing.T) {
	for behind := 0; behind <= 480; behind += 4 {
		for data := range 500 {
			b := told(data, behind)
			least := behind - 3
			if data > 468 || data < least || data > behind {
				checkRefused(t, b, api.ErrShape)
				continue
			}
			clear(b[12+data:])
			checkDecoded(t, b, full(data))
		}
		for _, data := range []int{512, 65536 - 12, 65532, 65535, 0x8000, behind<<8 | 1, 256 + behind} {
			checkBytes(t, told(data, behind))
		}
	}
	checkRefused(t, told(469, 472), api.ErrShape)
	checkRefused(t, told(472, 472), api.ErrShape)
	checkRefused(t, told(65535, 65536), api.ErrShape)
}

func TestEveryByteBehindTheData(t *testing.T) {
	for _, n := range []int{1, 2, 3, 5, 6, 7, 465, 466, 467} {
		b := written(full(n))
		for at := 12 + n; at < len(b); at++ {
			for x := 1; x < 256; x++ {
				checkRefused(t, turned(b, at, byte(x)), api.ErrShape)
			}
		}
		for at := range 12 + n {
			checkBytes(t, turned(b, at, 0))
		}
	}
}

// faults make something wrong of a right frame's bytes, in the order in which they are told.
var faults = []struct {
	errno api.Errno
	make  func(b []byte) []byte
}{
	{api.ErrShort, func(b []byte) []byte { return append(bytes.Clone(b), 0) }},
	{api.ErrMode, func(b []byte) []byte { return turned(b, 0, b[0]^5) }},
	{api.ErrVersion, func(b []byte) []byte { return turned(b, 0, b[0]&^0x38) }},
	{api.ErrVersion, func(b []byte) []byte { return turned(b, 0, b[0]|0x38) }},
	{api.ErrShape, func(b []byte) []byte { return turned(b, 0, b[0]|0x40) }},
	{api.ErrShape, func(b []byte) []byte { return turned(b, 0, b[0]|0x80) }},
	{api.ErrShape, func(b []byte) []byte { return turned(b, 10, 0x11) }},
	{api.ErrShape, func(b []byte) []byte { return turned(b, 11, b[11]^4) }},
	{api.ErrShape, func(b []byte) []byte { return turned(b, 15, 1) }},
}

func TestTwoFaults(t *testing.T) {
	for i, one := range faults {
		checkRefused(t, one.make(written(full(3))), one.errno)
		for _, two := range faults[i+1:] {
			if one.errno == two.errno {
				continue
			}
			checkRefused(t, one.make(two.make(written(full(3)))), one.errno)
			checkRefused(t, two.make(one.make(written(full(3)))), one.errno)
		}
	}
	for n := range 12 {
		checkRefused(t, slices.Repeat([]byte{0xff}, n), api.ErrShort)
	}
}
