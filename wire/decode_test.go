package wire

import (
	"encoding/binary"
	"math"
	"slices"
	"strings"
	"testing"

	"sundial/api"
)

// P9.2 and P9.3: what bytes are a packet, which one, and what is signed of it.

// headed is full's header and b behind it.
func headed(b ...byte) []byte { return append(written(packet(api.AuthNone)), b...) }

// told is a field of type 5 that tells that length, in so many bytes.
func told(length, bytes int) []byte {
	b := rising(bytes, 50)
	binary.BigEndian.PutUint16(b, 5)
	binary.BigEndian.PutUint16(b[2:], uint16(length))
	return b
}

// field is a field of type 5 of so many bytes.
func field(length int) []byte { return told(length, length) }

func TestBytesOfTheExamples(t *testing.T) {
	checkRefused(t, make([]byte, 48), api.ErrVersion)
	checkRefused(t, make([]byte, 47), api.ErrShort)
	checkRefused(t, make([]byte, 50), api.ErrShort)
	checkRefused(t, make([]byte, 1028), api.ErrLong)
	checkDecoded(t, headed(0, 0, 0, 0), packet(api.AuthNak))
	checkRefused(t, headed(0, 0, 0, 1), api.ErrField)
	checkRefused(t, headed(make([]byte, 8)...), api.ErrField)

	want := packet(api.AuthNone)
	want.Fields = []api.Field{{Type: 5, Body: rising(28, 50)[4:]}}
	checkDecoded(t, headed(told(28, 28)...), want)

	b := told(24, 28)
	copy(b[24:], []byte{0, 0, 0, 0})
	want = packet(api.AuthNak)
	want.Fields = []api.Field{{Type: 5, Body: rising(24, 50)[4:]}}
	checkDecoded(t, headed(b...), want)
	for at := 24; at < 28; at++ {
		b[at] = 1
		checkRefused(t, headed(b...), api.ErrField)
		b[at] = 0
	}
}

func TestDecodedHeader(t *testing.T) {
	b := "\x9d\x81\x11\xee" + "\x91\x02\x03\x04" + "\xa1\x12\x13\x14" + "\xb1\x22\x23\x24" +
		"\xc1\x32\x33\x34\x35\x36\x37\x38" + "\xd1\x42\x43\x44\x45\x46\x47\x48" + "\xe1\x52\x53\x54\x55\x56\x57\x58" + "\xf1\x62\x63\x64\x65\x66\x67\x68"
	checkDecoded(t, []byte(b), packet(api.AuthNone))
	all := strings.Repeat("\xff", 48)
	checkRefused(t, []byte(all), api.ErrVersion)
	checkDecoded(t, []byte("\xe7"+all[1:]), api.Packet{Header: api.Header{
		Leap: 3, Version: 4, Mode: 7, Stratum: 255, Poll: -1, Precision: -1,
		RootDelay: math.MaxUint32, RootDisp: math.MaxUint32, RefID: math.MaxUint32,
		Ref: math.MaxUint64, Origin: math.MaxUint64, Receive: math.MaxUint64, Transmit: math.MaxUint64,
	}})
	checkDecoded(t, []byte("\x08"+strings.Repeat("\x00", 47)), api.Packet{Header: api.Header{Version: 1}})
}

// Each byte of a header takes every value.
func TestEveryByteOfAHeader(t *testing.T) {
	for at := range 48 {
		for x := range 256 {
			b := headed()
			b[at] = byte(x)
			checkBytes(t, b)
		}
	}
}

func TestVersions(t *testing.T) {
	for version := range 8 {
		for _, end := range [][]byte{nil, make([]byte, 4), rising(20, 1), field(28)} {
			b := headed(end...)
			b[0] = byte(0xc7 | version<<3)
			if version < 1 || version > 4 {
				checkRefused(t, b, api.ErrVersion)
				continue
			}
			checkBytes(t, b)
			if p, errno := Decode(b); p.Version != version || p.Leap != 3 || p.Mode != 7 || errno != api.OK {
				t.Errorf("Decode(%x) = %v, %v", b, p, errno)
			}
		}
	}
}

// Of noughts behind the header no more than 24 are taken for an end; what is more isn't a field.
func TestBytesOfEveryLength(t *testing.T) {
	for n := range 1200 {
		for _, b := range [][]byte{make([]byte, n), rising(n, 0x23), slices.Concat(headed(), make([]byte, 1200))[:n], slices.Concat(headed(), rising(1200, 9))[:n]} {
			checkBytes(t, b)
			switch {
			case n < 48 || n%4 != 0:
				checkRefused(t, b, api.ErrShort)
			case n > 1024:
				checkRefused(t, b, api.ErrLong)
			case n > 72, n == 56, n == 60, n == 64:
				if _, errno := Decode(b); errno != api.ErrField && errno != api.ErrVersion {
					t.Errorf("Decode(%x): %v", b, errno)
				}
			}
		}
	}
	checkRefused(t, nil, api.ErrShort)
	checkRefused(t, []byte{}, api.ErrShort)
	for _, n := range []int{1028, 1 << 16, 1 << 20} {
		checkRefused(t, slices.Concat(headed(), make([]byte, n-48)), api.ErrLong)
	}
	checkRefused(t, make([]byte, 1<<20+1), api.ErrShort)
}

func TestLongestPackets(t *testing.T) {
	for n := 1000; n <= 1040; n++ {
		if n%4 != 0 {
			checkRefused(t, headed(field(n-48)...), api.ErrShort)
			continue
		}
		for _, end := range [][]byte{nil, make([]byte, 4), rising(20, 3), rising(24, 4)} {
			b := headed(slices.Concat(field(n-48-len(end)), end)...)
			if n > 1024 {
				checkRefused(t, b, api.ErrLong)
				continue
			}
			p, errno := Decode(b)
			if errno != api.OK || len(p.Fields) != 1 || len(p.Fields[0].Body) != n-48-len(end)-4 {
				t.Errorf("Decode(%x) = %v, %v", b, p, errno)
			}
			checkBytes(t, b)
		}
	}
}

func TestEveryLengthThatAFieldTells(t *testing.T) {
	for left := 28; left <= 80; left += 4 {
		for length := range 1100 {
			b := headed(told(length, left)...)
			checkBytes(t, b)
			rest := left - length
			if length < 16 || length%4 != 0 || rest < 0 || rest == 8 || rest == 12 || rest == 16 {
				checkRefused(t, b, api.ErrField)
			}
			if length >= 16 && (rest == 0 || rest == 20 || rest == 24) {
				if p, errno := Decode(b); len(p.Fields) != 1 || len(p.Fields[0].Body) != length-4 || errno != api.OK {
					t.Errorf("Decode(%x) = %v, %v; want a field of %d bytes", b, p, errno, length)
				}
			}
		}
	}
	for length := range 65536 {
		for _, left := range []int{28, 976} {
			b := headed(told(length, left)...)
			if length < 16 || length%4 != 0 || length > left {
				checkRefused(t, b, api.ErrField)
			} else {
				checkBytes(t, b)
			}
		}
	}
}

// The second of two fields tells every length.
func TestEveryLengthThatASecondFieldTells(t *testing.T) {
	for _, first := range []int{16, 20, 28, 64} {
		for left := 28; left <= 60; left += 4 {
			for length := range 80 {
				checkBytes(t, headed(slices.Concat(field(first), told(length, left))...))
			}
		}
	}
}

func TestTypesThatAreTold(t *testing.T) {
	for _, kind := range []int{0, 1, 5, 255, 256, 0x0102, 0x7fff, 0x8000, 0xffff} {
		b := headed(field(28)...)
		binary.BigEndian.PutUint16(b[48:], uint16(kind))
		if p, errno := Decode(b); errno != api.OK || len(p.Fields) != 1 || p.Fields[0].Type != kind {
			t.Errorf("Decode(%x) = %v, %v; want the type %d", b, p, errno, kind)
		}
		checkBytes(t, b)
	}
}

func TestFieldsUpToNine(t *testing.T) {
	for _, length := range []int{28, 32, 64} {
		var fields []byte
		for n := range 10 {
			for _, end := range [][]byte{nil, make([]byte, 4), rising(20, 3), rising(24, 4)} {
				b := headed(slices.Concat(fields, end)...)
				if n > 8 {
					checkRefused(t, b, api.ErrField)
					continue
				}
				if p, errno := Decode(b); len(p.Fields) != n || errno != api.OK {
					t.Errorf("Decode(%x) = %v, %v; want %d fields", b, p, errno, n)
				}
				checkBytes(t, b)
			}
			fields = append(fields, field(length)...)
		}
	}
}

// Behind eight fields up to 24 bytes are an end, and more are too many, whatever they are.
func TestWhatStandsBehindEightFields(t *testing.T) {
	eight := slices.Repeat(field(16), 8)
	for left := 0; left <= 40; left += 4 {
		for _, end := range [][]byte{make([]byte, left), rising(left, 1), slices.Concat(field(28), rising(20, 1))[:left]} {
			b := headed(slices.Concat(eight, end)...)
			checkBytes(t, b)
			p, errno := Decode(b)
			switch {
			case left > 24 && errno != api.ErrField:
				t.Errorf("Decode(%x): %v; want E23", b, errno)
			case (left == 20 || left == 24) && (len(p.Fields) != 8 || errno != api.OK):
				t.Errorf("Decode(%x) = %v, %v; want eight fields", b, p, errno)
			}
		}
	}
}

func TestEndsOfBytes(t *testing.T) {
	for _, bodies := range [][]int{nil, {24}, {12, 24}, {24, 24, 24, 24, 24, 24, 24, 24}} {
		ahead := written(packet(api.AuthNone, bodies...))
		for _, n := range []int{16, 20} {
			want := withDigest(packet(api.AuthMac, bodies...), n)
			for _, id := range []string{"\x00\x00\x00\x00", "\x00\x00\x00\x01", "\x01\x02\x03\x04", "\xff\xff\xff\xff"} {
				want.KeyID = binary.BigEndian.Uint32([]byte(id))
				checkDecoded(t, slices.Concat(ahead, []byte(id), want.Digest), want)
			}
		}
		for _, n := range []int{8, 12, 16} {
			for _, end := range [][]byte{make([]byte, n), rising(n, 1), field(16)[:n]} {
				checkRefused(t, slices.Concat(ahead, end), api.ErrField)
			}
		}
	}
}

// Four bytes at the end are all 0, or no end.
func TestCryptoNaks(t *testing.T) {
	for at := range 4 {
		for x := 1; x < 256; x++ {
			end := make([]byte, 4)
			end[at] = byte(x)
			checkRefused(t, headed(end...), api.ErrField)
			checkRefused(t, headed(slices.Concat(field(28), end)...), api.ErrField)
		}
	}
	checkBytes(t, headed(slices.Concat(field(28), make([]byte, 4))...))
}

// A MAC that looks like a field is a MAC, as 24 bytes are no field; four bytes more, and they are one.
func TestEndsThatLookLikeFields(t *testing.T) {
	for _, n := range []int{20, 24} {
		p, errno := Decode(headed(field(n)...))
		if len(p.Fields) != 0 || p.Auth != api.AuthMac || p.KeyID != uint32(5<<16|n) || len(p.Digest) != n-4 || errno != api.OK {
			t.Errorf("Decode of %d bytes like a field = %v, %v", n, p, errno)
		}
	}
	p, errno := Decode(headed(field(28)...))
	if len(p.Fields) != 1 || p.Auth != api.AuthNone || errno != api.OK {
		t.Errorf("Decode of a field of 28 bytes = %v, %v", p, errno)
	}
}

func TestTwoFaultsOfBytes(t *testing.T) {
	wrongVersion := func(b []byte) []byte {
		b[0] = 0
		return b
	}
	for _, r := range []struct {
		b    []byte
		want api.Errno
	}{
		{make([]byte, 1027), api.ErrShort},
		{make([]byte, 1026), api.ErrShort},
		{make([]byte, 1025), api.ErrShort},
		{headed(make([]byte, 1025-48)...), api.ErrShort},
		{wrongVersion(headed(0)), api.ErrShort},
		{wrongVersion(headed())[:44], api.ErrShort},
		{headed(make([]byte, 9)...), api.ErrShort},
		{headed(field(29)...), api.ErrShort},
		{wrongVersion(headed(make([]byte, 1028-48)...)), api.ErrLong},
		{headed(make([]byte, 1028-48)...), api.ErrLong},
		{headed(slices.Repeat(field(200), 9)...), api.ErrLong},
		{wrongVersion(headed(make([]byte, 8)...)), api.ErrVersion},
		{wrongVersion(headed(0, 0, 0, 1)), api.ErrVersion},
		{wrongVersion(headed(told(12, 28)...)), api.ErrVersion},
		{wrongVersion(headed(slices.Repeat(field(28), 9)...)), api.ErrVersion},
		{headed(slices.Concat(slices.Repeat(field(28), 8), told(12, 28))...), api.ErrField},
		{headed(slices.Concat(told(12, 28), make([]byte, 8))...), api.ErrField},
	} {
		checkRefused(t, r.b, r.want)
		checkBytes(t, r.b)
	}
}

func TestSigned(t *testing.T) {
	for _, ahead := range [][]byte{nil, field(28), slices.Concat(field(44), field(28))} {
		for _, end := range [][]byte{nil, make([]byte, 4), rising(20, 3), rising(24, 4)} {
			want := headed(ahead...)
			if s, errno := Signed(slices.Concat(want, end)); !slices.Equal(s, want) || errno != api.OK {
				t.Errorf("Signed of %d bytes and an end of %d = %x, %v; want %x, E0", len(want), len(end), s, errno, want)
			}
		}
	}
}
