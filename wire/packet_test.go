package wire

import (
	"bytes"
	"encoding/binary"
	"slices"
	"testing"

	"sundial/api"
)

var auths = []api.Auth{api.AuthNone, api.AuthNak, api.AuthMac}

// rising is n bytes, each one more than the one ahead of it; 251 is prime, so that no two stretches are alike.
func rising(n, first int) []byte {
	b := make([]byte, n)
	for i := range b {
		b[i] = byte((first + i) % 251)
	}
	return b
}

// full is a header all bytes of which but the first one are different ones, and none is 0.
func full() api.Header {
	return api.Header{
		Leap: 2, Version: 3, Mode: 5, Stratum: 0x81, Poll: 0x11, Precision: -0x12,
		RootDelay: 0x91020304, RootDisp: 0xa1121314, RefID: 0xb1222324,
		Ref: 0xc132333435363738, Origin: 0xd142434445464748, Receive: 0xe152535455565758, Transmit: 0xf162636465666768,
	}
}

// packet is a packet with full's header, an end of that kind, and fields whose bodies have so many bytes.
func packet(auth api.Auth, bodies ...int) api.Packet {
	p := api.Packet{Header: full(), Auth: auth}
	for i, n := range bodies {
		p.Fields = append(p.Fields, api.Field{Type: 0x0201 + i, Body: rising(n, 7*i+1)})
	}
	if auth == api.AuthMac {
		p.KeyID, p.Digest = 0x71727374, rising(16, 100)
	}
	return p
}

// withDigest is p with a digest of n bytes.
func withDigest(p api.Packet, n int) api.Packet {
	p.Digest = rising(n, 100)
	return p
}

// withoutEnd is p with AuthNone.
func withoutEnd(p api.Packet) api.Packet {
	p.Auth, p.KeyID, p.Digest = api.AuthNone, 0, nil
	return p
}

func sameField(a, b api.Field) bool { return a.Type == b.Type && bytes.Equal(a.Body, b.Body) }

func same(a, b api.Packet) bool {
	return a.Header == b.Header && slices.EqualFunc(a.Fields, b.Fields, sameField) &&
		a.Auth == b.Auth && a.KeyID == b.KeyID && bytes.Equal(a.Digest, b.Digest)
}

// laid is a header as the chapter lays it.
type laid struct {
	First, Stratum                 uint8
	Poll, Precision                int8
	RootDelay, RootDisp, RefID     uint32
	Ref, Origin, Receive, Transmit uint64
}

// written is p's bytes by other means, of wrong packets, too: what has no room in its bytes loses its upper ones.
func written(p api.Packet) []byte {
	var b bytes.Buffer
	put := func(x any) { binary.Write(&b, binary.BigEndian, x) }
	put(laid{
		First: uint8(64*p.Leap + 8*p.Version + p.Mode), Stratum: uint8(p.Stratum), Poll: int8(p.Poll), Precision: int8(p.Precision),
		RootDelay: p.RootDelay, RootDisp: p.RootDisp, RefID: p.RefID,
		Ref: p.Ref, Origin: p.Origin, Receive: p.Receive, Transmit: p.Transmit,
	})
	for _, f := range p.Fields {
		put([]uint16{uint16(f.Type), uint16(4 + len(f.Body))})
		b.Write(f.Body)
	}
	switch p.Auth {
	case api.AuthNak:
		b.Write([]byte{0, 0, 0, 0})
	case api.AuthMac:
		put(p.KeyID)
		b.Write(p.Digest)
	}
	return b.Bytes()
}

// taken is what Decode should answer of b, by other means.
func taken(b []byte) (api.Packet, api.Errno) {
	switch {
	case len(b) < 48, len(b)&3 != 0:
		return api.Packet{}, api.ErrShort
	case len(b) > 1024:
		return api.Packet{}, api.ErrLong
	case b[0]&0x38 == 0, b[0]&0x38 > 0x20:
		return api.Packet{}, api.ErrVersion
	}
	var l laid
	binary.Read(bytes.NewReader(b), binary.BigEndian, &l)
	p := api.Packet{Header: api.Header{
		Leap: int(l.First) / 64, Version: int(l.First) / 8 % 8, Mode: int(l.First) % 8, Stratum: int(l.Stratum), Poll: int(l.Poll), Precision: int(l.Precision),
		RootDelay: l.RootDelay, RootDisp: l.RootDisp, RefID: l.RefID, Ref: l.Ref, Origin: l.Origin, Receive: l.Receive, Transmit: l.Transmit,
	}}
	if !takenBehind(&p, b[48:]) {
		return api.Packet{}, api.ErrField
	}
	return p, api.OK
}

// takenBehind puts into p what b, behind its header or a field, says.
func takenBehind(p *api.Packet, b []byte) bool {
	switch len(b) {
	case 0:
		return true
	case 4:
		p.Auth = api.AuthNak
		return bytes.Equal(b, make([]byte, 4))
	case 20, 24:
		p.Auth, p.KeyID, p.Digest = api.AuthMac, binary.BigEndian.Uint32(b), bytes.Clone(b[4:])
		return true
	case 8, 12, 16:
		return false
	}
	n := int(binary.BigEndian.Uint16(b[2:]))
	if n < 16 || n&3 != 0 || n > len(b) || len(p.Fields) == 8 {
		return false
	}
	p.Fields = append(p.Fields, api.Field{Type: int(binary.BigEndian.Uint16(b)), Body: bytes.Clone(b[4:n])})
	return takenBehind(p, b[n:])
}

// checkRight holds every call against a packet that is right, there and back.
func checkRight(t *testing.T, p api.Packet) {
	t.Helper()
	if errno := Check(p); errno != api.OK {
		t.Errorf("Check(%v) = %v; want E0", p, errno)
	}
	want := written(p)
	if b, errno := Encode(p); !bytes.Equal(b, want) || errno != api.OK {
		t.Errorf("Encode(%v) = %x, %v; want %x, E0", p, b, errno, want)
	}
	checkDecoded(t, want, p)
}

func checkWrong(t *testing.T, p api.Packet) {
	t.Helper()
	if errno := Check(p); errno != api.ErrShape {
		t.Errorf("Check(%v) = %v; want E3", p, errno)
	}
	if b, errno := Encode(p); b != nil || errno != api.ErrShape {
		t.Errorf("Encode(%v) = %x, %v; want none, E3", p, b, errno)
	}
}

// checkPacket takes p for right or wrong.
func checkPacket(t *testing.T, p api.Packet, right bool) {
	t.Helper()
	if right {
		checkRight(t, p)
	} else {
		checkWrong(t, p)
	}
}

// checkDecoded holds Decode and Signed of b, and Encode back, against p.
func checkDecoded(t *testing.T, b []byte, p api.Packet) {
	t.Helper()
	got, errno := Decode(b)
	if !same(got, p) || errno != api.OK {
		t.Errorf("Decode(%x) = %v, %v; want %v, E0", b, got, errno, p)
		return
	}
	if back, errno := Encode(got); !bytes.Equal(back, b) || errno != api.OK {
		t.Errorf("Encode of Decode(%x) = %x, %v", b, back, errno)
	}
	want := written(withoutEnd(p))
	if s, errno := Signed(b); !bytes.Equal(s, want) || errno != api.OK {
		t.Errorf("Signed(%x) = %x, %v; want %x, E0", b, s, errno, want)
	}
}

func checkRefused(t *testing.T, b []byte, want api.Errno) {
	t.Helper()
	if p, errno := Decode(b); !same(p, api.Packet{}) || errno != want {
		t.Errorf("Decode(%x) = %v, %v; want none, %v", b, p, errno, want)
	}
	if s, errno := Signed(b); s != nil || errno != want {
		t.Errorf("Signed(%x) = %x, %v; want none, %v", b, s, errno, want)
	}
}

// checkBytes holds Decode and Signed of b against what taken says of it.
func checkBytes(t *testing.T, b []byte) {
	t.Helper()
	if p, errno := taken(b); errno == api.OK {
		checkDecoded(t, b, p)
	} else {
		checkRefused(t, b, errno)
	}
}
