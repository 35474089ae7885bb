package wire

import (
	"bytes"
	"encoding/binary"
	"math/rand"
	"slices"
	"testing"

	"sundial/api"
)

// P9.4: what is put into bytes comes out of them, and back, and whatever the bytes are, they are answered.

// oneOf is one of a list.
func oneOf[T any](r *rand.Rand, list ...T) T { return list[r.Intn(len(list))] }

// near is a number from least to greatest; now and then one that is beside them, if wrong ones are wanted.
func near(r *rand.Rand, least, greatest int, wrong bool) int {
	if wrong && r.Intn(20) == 0 {
		return oneOf(r, least-1, greatest+1)
	}
	return oneOf(r, least, greatest, least+r.Intn(greatest-least+1))
}

func randomBytes(r *rand.Rand, n int) []byte {
	b := make([]byte, n)
	r.Read(b)
	return b
}

// randomPacket is a packet whose parts are right each for itself, or now and then wrong, if such are wanted.
func randomPacket(r *rand.Rand, wrong bool) api.Packet {
	p := api.Packet{Header: api.Header{
		Leap: near(r, 0, 3, wrong), Version: near(r, 1, 4, wrong), Mode: near(r, 0, 7, wrong), Stratum: near(r, 0, 255, wrong),
		Poll: near(r, -128, 127, wrong), Precision: near(r, -128, 127, wrong),
		RootDelay: r.Uint32(), RootDisp: r.Uint32(), RefID: r.Uint32(),
		Ref: r.Uint64(), Origin: r.Uint64(), Receive: r.Uint64(), Transmit: r.Uint64(),
	}}
	most := oneOf(r, 16, 28, 60, 240, 960)
	for range near(r, 0, 8, wrong) {
		length := 4 * near(r, 4, most/4, wrong)
		if wrong && r.Intn(20) == 0 {
			length += oneOf(r, -2, -1, 1, 2)
		}
		p.Fields = append(p.Fields, api.Field{Type: near(r, 0, 65535, wrong), Body: randomBytes(r, length-4)})
	}
	p.Auth = oneOf(r, auths...)
	if p.Auth == api.AuthMac {
		p.KeyID, p.Digest = r.Uint32()>>r.Intn(32), randomBytes(r, oneOf(r, 16, 20))
	}
	if wrong && r.Intn(20) == 0 {
		p.Digest = randomBytes(r, oneOf(r, 0, 4, 15, 16, 17, 20, 21))
	}
	if wrong && r.Intn(20) == 0 {
		p.KeyID = r.Uint32()
	}
	return p
}

// A packet is right, just if its bytes are a packet again, and that one.
func TestRightIsWhatComesBack(t *testing.T) {
	r := rand.New(rand.NewSource(91))
	count := map[bool]int{}
	for i := range 40000 {
		p := randomPacket(r, i%2 == 0)
		back, errno := taken(written(p))
		right := errno == api.OK && same(back, p)
		checkPacket(t, p, right)
		count[right]++
	}
	if count[true] < 5000 || count[false] < 5000 {
		t.Errorf("right and wrong ones: %v", count)
	}
}

func TestDecodeOfEncode(t *testing.T) {
	r := rand.New(rand.NewSource(92))
	count := 0
	for range 40000 {
		p := randomPacket(r, false)
		b, errno := Encode(p)
		if errno != api.OK {
			continue
		}
		count++
		if back, errno := Decode(b); !same(back, p) || errno != api.OK {
			t.Fatalf("Decode of Encode(%v) = %v, %v", p, back, errno)
		}
		if s, errno := Signed(b); !bytes.Equal(s, written(withoutEnd(p))) || errno != api.OK {
			t.Fatalf("Signed of Encode(%v) = %x, %v", p, s, errno)
		}
	}
	if count < 10000 {
		t.Errorf("only %d packets are right", count)
	}
}

// someBytes are bytes that look like a packet, more or less.
func someBytes(r *rand.Rand) []byte {
	b := randomBytes(r, 48)
	if r.Intn(10) > 0 {
		b[0] = byte(r.Intn(4)<<6 | (1+r.Intn(4))<<3 | r.Intn(8))
	}
	for range r.Intn(11) {
		length := 4 * oneOf(r, 4, 5, 6, 7, 8, 20, 4+r.Intn(60), 4+r.Intn(240))
		f := randomBytes(r, length)
		if r.Intn(15) == 0 {
			length = oneOf(r, 0, 4, 8, 12, length-1, length+1, length+2, length-4, length+4, length+1024, r.Intn(65536))
		}
		binary.BigEndian.PutUint16(f[2:], uint16(length))
		b = append(b, f...)
	}
	end := randomBytes(r, oneOf(r, 0, 0, 4, 20, 24, 8, r.Intn(30)))
	if len(end) == 4 && r.Intn(3) > 0 {
		clear(end)
	}
	return append(b, end...)
}

func TestEncodeOfDecode(t *testing.T) {
	r := rand.New(rand.NewSource(93))
	count := map[api.Errno]int{}
	for range 100000 {
		b := someBytes(r)
		_, errno := Decode(b)
		count[errno]++
		checkBytes(t, b)
	}
	for _, errno := range []api.Errno{api.OK, api.ErrShort, api.ErrLong, api.ErrVersion, api.ErrField} {
		if count[errno] < 1000 {
			t.Errorf("so often each answer: %v", count)
		}
	}
}

func TestAllBytesAreAnswered(t *testing.T) {
	r := rand.New(rand.NewSource(94))
	for range 100 {
		for n := 0; n <= 1040; n++ {
			b := randomBytes(r, n)
			checkBytes(t, b)
			if n > 0 {
				b[0] = 0x23
				checkBytes(t, b)
			}
		}
	}
}

// A bit that is turned, wherever it is, is to be seen in the packet, or refused.
func TestEveryBitIsToBeSeen(t *testing.T) {
	for _, auth := range auths {
		p := packet(auth, 12, 24)
		b := written(p)
		for bit := range 8 * len(b) {
			turned := slices.Clone(b)
			turned[bit/8] ^= 1 << (bit % 8)
			checkBytes(t, turned)
			if got, errno := Decode(turned); errno == api.OK && same(got, p) {
				t.Errorf("Decode(%x) is as of %x", turned, b)
			}
		}
	}
}

func FuzzBytes(f *testing.F) {
	f.Add(headed())
	f.Add(headed(0, 0, 0, 0))
	f.Add(written(packet(api.AuthMac, 12, 24)))
	f.Add(written(packet(api.AuthNak, 12, 12, 12, 12, 12, 12, 12, 24)))
	f.Fuzz(checkBytes)
}
