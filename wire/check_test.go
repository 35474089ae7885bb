package wire

import (
	"math"
	"testing"

	"sundial/api"
)

// P9.1: which packets are right, and the bytes of those that are.

func TestPacketsOfTheExamples(t *testing.T) {
	b, errno := Encode(api.Packet{Header: api.Header{Leap: 3, Version: 4, Mode: 3, Stratum: 16, Poll: 6, Precision: -20}})
	if len(b) != 48 || [4]byte(b) != [4]byte{0xe3, 0x10, 0x06, 0xec} || errno != api.OK {
		t.Errorf("Encode = %x, %v", b, errno)
	}
	checkWrong(t, packet(api.AuthNone, 12))
	checkRight(t, packet(api.AuthNak, 20))
}

func TestBytesOfAHeader(t *testing.T) {
	b, errno := Encode(packet(api.AuthNone))
	want := "\x9d\x81\x11\xee" + "\x91\x02\x03\x04" + "\xa1\x12\x13\x14" + "\xb1\x22\x23\x24" +
		"\xc1\x32\x33\x34\x35\x36\x37\x38" + "\xd1\x42\x43\x44\x45\x46\x47\x48" + "\xe1\x52\x53\x54\x55\x56\x57\x58" + "\xf1\x62\x63\x64\x65\x66\x67\x68"
	if string(b) != want || errno != api.OK {
		t.Errorf("Encode = %x, %v; want %x, E0", b, errno, want)
	}
}

func TestBytesBehindAHeader(t *testing.T) {
	p := packet(api.AuthMac, 12, 16)
	p.Digest = []byte("0123456789abcdef")
	p.Fields[0] = api.Field{Type: 0x1234, Body: []byte("twelve bytes")}
	p.Fields[1] = api.Field{Type: 0xfedc, Body: []byte("of sixteen bytes")}
	b, errno := Encode(p)
	want := "\x12\x34\x00\x10twelve bytes" + "\xfe\xdc\x00\x14of sixteen bytes" + "\x71\x72\x73\x74" + "0123456789abcdef"
	if len(b) < 48 || string(b[48:]) != want || errno != api.OK {
		t.Errorf("Encode = %x, %v; want %x behind the header, E0", b, errno, want)
	}
}

// The numbers of a header that have more room than they may use.
var headerNumbers = []struct {
	name            string
	least, greatest int
	at              func(h *api.Header) *int
}{
	{"Leap", 0, 3, func(h *api.Header) *int { return &h.Leap }},
	{"Version", 1, 4, func(h *api.Header) *int { return &h.Version }},
	{"Mode", 0, 7, func(h *api.Header) *int { return &h.Mode }},
	{"Stratum", 0, 255, func(h *api.Header) *int { return &h.Stratum }},
	{"Poll", -128, 127, func(h *api.Header) *int { return &h.Poll }},
	{"Precision", -128, 127, func(h *api.Header) *int { return &h.Precision }},
}

func TestEveryNumberOfAHeader(t *testing.T) {
	for _, n := range headerNumbers {
		for _, h := range []api.Header{full(), {Version: 1}, {Leap: 3, Version: 4, Mode: 7, Stratum: 255, Poll: -1, Precision: -1}} {
			p := api.Packet{Header: h}
			x := n.at(&p.Header)
			for *x = n.least; *x <= n.greatest; *x++ {
				checkRight(t, p)
			}
			for _, *x = range []int{n.least - 1, n.greatest + 1, n.least - 8, n.greatest + 8, n.least - 256, n.greatest + 256, n.least + 256, n.least + 65536, math.MinInt, math.MaxInt, math.MinInt + n.greatest + 1} {
				checkWrong(t, p)
			}
		}
	}
}

func TestEveryTwoNumbersOfAHeaderAtTheirEdges(t *testing.T) {
	for _, one := range headerNumbers {
		for _, two := range headerNumbers {
			for _, x := range []int{one.least - 1, one.least, one.greatest, one.greatest + 1} {
				for _, y := range []int{two.least - 1, two.least, two.greatest, two.greatest + 1} {
					p := packet(api.AuthNone)
					*one.at(&p.Header) = x
					*two.at(&p.Header) = y
					z := *one.at(&p.Header)
					right := z >= one.least && z <= one.greatest && y >= two.least && y <= two.greatest
					checkPacket(t, p, right)
				}
			}
		}
	}
}

func TestEveryStampOfAHeader(t *testing.T) {
	for _, at := range []func(h *api.Header) *uint64{
		func(h *api.Header) *uint64 { return &h.Ref },
		func(h *api.Header) *uint64 { return &h.Origin },
		func(h *api.Header) *uint64 { return &h.Receive },
		func(h *api.Header) *uint64 { return &h.Transmit },
	} {
		for _, x := range []uint64{0, 1, 255, 1 << 32, 1<<63 - 1, 1 << 63, math.MaxUint64, 0x0102030405060708} {
			p := packet(api.AuthNone)
			*at(&p.Header) = x
			checkRight(t, p)
		}
	}
	for _, at := range []func(h *api.Header) *uint32{
		func(h *api.Header) *uint32 { return &h.RootDelay },
		func(h *api.Header) *uint32 { return &h.RootDisp },
		func(h *api.Header) *uint32 { return &h.RefID },
	} {
		for _, x := range []uint32{0, 1, 255, 1<<31 - 1, 1 << 31, math.MaxUint32, 0x01020304} {
			p := packet(api.AuthNone)
			*at(&p.Header) = x
			checkRight(t, p)
		}
	}
}

func TestHowManyFields(t *testing.T) {
	for _, auth := range auths {
		for n := range 20 {
			for _, body := range []int{24, 28, 60} {
				bodies := make([]int, n)
				for i := range bodies {
					bodies[i] = body
				}
				checkPacket(t, packet(auth, bodies...), n <= 8)
			}
		}
		many := packet(auth)
		many.Fields = make([]api.Field, 1000000)
		checkWrong(t, many)
	}
}

func TestTypesOfFields(t *testing.T) {
	for _, auth := range auths {
		for _, at := range []int{0, 1, 2} {
			p := packet(auth, 24, 24, 24)
			for _, p.Fields[at].Type = range []int{0, 1, 255, 256, 32767, 32768, 65534, 65535} {
				checkRight(t, p)
			}
			for _, p.Fields[at].Type = range []int{-1, -2, -65536, -65535, 65536, 65537, 131071, 1 << 32, math.MinInt, math.MaxInt} {
				checkWrong(t, p)
			}
		}
	}
}

// ends is how many bytes are at the end of packets with all digests that there are.
func ends() map[int]api.Packet {
	return map[int]api.Packet{
		0:  packet(api.AuthNone),
		4:  packet(api.AuthNak),
		20: packet(api.AuthMac),
		24: withDigest(packet(api.AuthMac), 20),
	}
}

func TestOneFieldOfEveryLength(t *testing.T) {
	for end, p := range ends() {
		checkRight(t, p)
		for length := 4; length <= 1100; length++ {
			p.Fields = []api.Field{{Type: 5, Body: rising(length-4, length)}}
			checkPacket(t, p, length >= 16 && length%4 == 0 && length+end > 24 && 48+length+end <= 1024)
		}
		for _, length := range []int{4096, 65532, 65535, 65536, 65540, 65536 + 28, 65536 + 976, 1 << 20, 1<<24 + 32} {
			p.Fields = []api.Field{{Type: 5, Body: make([]byte, length-4)}}
			checkWrong(t, p)
		}
	}
}

func TestTwoFieldsOfEveryLength(t *testing.T) {
	for end, p := range ends() {
		for one := 4; one <= 40; one++ {
			for two := 4; two <= 40; two++ {
				p.Fields = []api.Field{{Type: 1, Body: rising(one-4, 1)}, {Type: 2, Body: rising(two-4, 2)}}
				checkPacket(t, p, min(one, two) >= 16 && one%4 == 0 && two%4 == 0 && two+end > 24)
			}
		}
	}
}

// Among right fields one that isn't, wherever it stands.
func TestOneWrongFieldOfThree(t *testing.T) {
	for _, auth := range auths {
		for at := range 3 {
			for length := 4; length < 40; length++ {
				p := packet(auth, 24, 24, 24)
				p.Fields[at].Body = rising(length-4, 3)
				end := map[api.Auth]int{api.AuthNak: 4, api.AuthMac: 20}[auth]
				checkPacket(t, p, length >= 16 && length%4 == 0 && (at < 2 || length+end > 24))
			}
		}
	}
}

func TestAllTogether(t *testing.T) {
	for end, p := range ends() {
		for fields := 1; fields <= 8; fields++ {
			for total := 1012; total <= 1040; total++ {
				p.Fields = nil
				left := total - 48 - end
				for i := range fields {
					length := 40 + 8*i
					if i == fields-1 {
						length = left
					}
					p.Fields = append(p.Fields, api.Field{Type: i, Body: rising(length-4, i)})
					left -= length
				}
				if b := written(p); len(b) != total {
					t.Fatalf("%d bytes; want %d", len(b), total)
				}
				checkPacket(t, p, total <= 1024 && total%4 == 0)
			}
		}
	}
}

// One body may stand in several fields, and more than there is room for.
func TestOneBodyInEveryField(t *testing.T) {
	body := make([]byte, 1<<20)
	for n := 1; n <= 8; n++ {
		for _, length := range []int{24, 116, 120, 1020, 65532, 1 << 20} {
			p := packet(api.AuthNone)
			for i := range n {
				p.Fields = append(p.Fields, api.Field{Type: i, Body: body[:length]})
			}
			checkPacket(t, p, 48+n*(length+4) <= 1024)
		}
	}
}

func TestEnds(t *testing.T) {
	for _, auth := range []api.Auth{-1, 0, 1, 2, 3, 4, 256, 257, 258, 65538, math.MinInt, math.MaxInt} {
		for _, id := range []uint32{0, 1, 0x01020304, 1 << 31, math.MaxUint32} {
			for digest := range 45 {
				for _, bodies := range [][]int{nil, {24}, {24, 12}} {
					p := withDigest(packet(0, bodies...), digest)
					p.Auth, p.KeyID = auth, id
					right := false
					switch auth {
					case api.AuthNone, api.AuthNak:
						// Ahead of the second field too few bytes are left.
						right = id == 0 && digest == 0 && len(bodies) < 2
					case api.AuthMac:
						right = digest == 16 || digest == 20
					}
					checkPacket(t, p, right)
				}
			}
		}
	}
}

// Whether a list is nil or empty means the same.
func TestEmptyLists(t *testing.T) {
	for _, auth := range auths {
		p := packet(auth)
		p.Fields = []api.Field{}
		if auth != api.AuthMac {
			p.Digest = []byte{}
		}
		checkRight(t, p)
		for _, body := range [][]byte{nil, {}} {
			p.Fields = []api.Field{{Body: body}}
			checkWrong(t, p)
			p.Fields = []api.Field{{Body: body}, {Body: rising(24, 1)}}
			checkWrong(t, p)
		}
	}
	p := packet(api.AuthMac)
	for _, p.Digest = range [][]byte{nil, {}} {
		checkWrong(t, p)
	}
	checkWrong(t, api.Packet{})
}

// turns are turns of a right packet into one that is wrong.
func turns() []func(p *api.Packet) {
	return []func(p *api.Packet){
		func(p *api.Packet) { p.Leap = 4 },
		func(p *api.Packet) { p.Version = 0 },
		func(p *api.Packet) { p.Mode = -1 },
		func(p *api.Packet) { p.Stratum = 256 },
		func(p *api.Packet) { p.Poll = 128 },
		func(p *api.Packet) { p.Precision = -129 },
		func(p *api.Packet) { p.Fields = append(p.Fields, api.Field{Type: -1, Body: rising(24, 1)}) },
		func(p *api.Packet) { p.Fields = append(p.Fields, api.Field{Type: 65536, Body: rising(24, 1)}) },
		func(p *api.Packet) { p.Fields = append(p.Fields, api.Field{Body: rising(25, 1)}) },
		func(p *api.Packet) { p.Fields = append(p.Fields, api.Field{Body: rising(8, 1)}) },
		func(p *api.Packet) { p.Fields = append(p.Fields, api.Field{Body: rising(1024, 1)}) },
		func(p *api.Packet) {
			p.Fields = append(p.Fields, packet(0, 24, 24, 24, 24, 24, 24, 24, 24, 24).Fields...)
		},
		func(p *api.Packet) { p.Auth, p.KeyID, p.Digest = api.AuthNone, 1, nil },
		func(p *api.Packet) { p.Auth, p.KeyID, p.Digest = api.AuthNak, 0, rising(16, 1) },
		func(p *api.Packet) { p.Auth, p.Digest = api.AuthMac, rising(17, 1) },
		func(p *api.Packet) { p.Auth = 3 },
	}
}

func TestTwoFaultsOfPackets(t *testing.T) {
	for _, one := range turns() {
		for _, two := range turns() {
			for _, auth := range auths {
				p := packet(auth, 24)
				one(&p)
				checkWrong(t, p)
				two(&p)
				checkWrong(t, p)
			}
		}
	}
}
