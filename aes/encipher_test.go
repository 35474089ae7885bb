package aes

import (
	"bytes"
	"crypto/aes"
	"encoding/hex"
	"math/rand"
	"testing"

	"sundial/api"
)

const exampleKey = "2b7e151628aed2a6abf7158809cf4f3c"

// raw is bytes out of the base sixteen.
func raw(t *testing.T, text string) []byte {
	t.Helper()
	b, err := hex.DecodeString(text)
	if err != nil {
		t.Fatal(err)
	}
	return b
}

// rising is n bytes, each one more than the one ahead of it; 251 is prime, so that no two blocks are alike.
func rising(n, first int) []byte {
	b := make([]byte, n)
	for i := range b {
		b[i] = byte((first + i) % 251)
	}
	return b
}

func oneBit(bit int) []byte {
	b := make([]byte, 16)
	b[bit/8] = 1 << (bit % 8)
	return b
}

// libraryBlock is the block enciphered by the library.
func libraryBlock(key, block []byte) []byte {
	c, err := aes.NewCipher(key)
	if err != nil {
		panic(err)
	}
	b := make([]byte, 16)
	c.Encrypt(b, block)
	return b
}

func checkEncipher(t *testing.T, key, block []byte) {
	t.Helper()
	if got, errno := Encipher(key, block); !bytes.Equal(got, libraryBlock(key, block)) || errno != api.OK {
		t.Errorf("Encipher(%x, %x) = %x, %v; want %x, E0", key, block, got, errno, libraryBlock(key, block))
	}
}

// P5.1
func TestEncipherOfKnownBlocks(t *testing.T) {
	for _, r := range []struct{ key, block, want string }{
		{exampleKey, "6bc1bee22e409f96e93d7e117393172a", "3ad77bb40d7a3660a89ecaf32466ef97"},
		{exampleKey, "ae2d8a571e03ac9c9eb76fac45af8e51", "f5d3d58503b9699de785895a96fdbaaf"},
		{exampleKey, "30c81c46a35ce411e5fbc1191a0a52ef", "43b1cd7f598ece23881b00e3ed030688"},
		{exampleKey, "f69f2445df4f9b17ad2b417be66c3710", "7b0c785e27e8ad3f8223207104725dd4"},
		{exampleKey, "3243f6a8885a308d313198a2e0370734", "3925841d02dc09fbdc118597196a0b32"},
		{exampleKey, "00000000000000000000000000000000", "7df76b0c1ab899b33e42f047b91b546f"},
		{"000102030405060708090a0b0c0d0e0f", "00112233445566778899aabbccddeeff", "69c4e0d86a7b0430d8cdb78070b4c55a"},
		{"00000000000000000000000000000000", "00000000000000000000000000000000", "66e94bd4ef8a2c3b884cfa59ca342b2e"},
		{"00000000000000000000000000000000", "f34481ec3cc627bacd5dc3fb08f273e6", "0336763e966d92595a567cc9ce537f5e"},
	} {
		if got, errno := Encipher(raw(t, r.key), raw(t, r.block)); hex.EncodeToString(got) != r.want || errno != api.OK {
			t.Errorf("Encipher(%s, %s) = %x, %v; want %s, E0", r.key, r.block, got, errno, r.want)
		}
	}
}

func TestEncipherOfEveryBit(t *testing.T) {
	none := make([]byte, 16)
	for bit := range 128 {
		checkEncipher(t, oneBit(bit), none)
		checkEncipher(t, none, oneBit(bit))
		for other := range 128 {
			checkEncipher(t, oneBit(bit), oneBit(other))
		}
	}
}

func TestEncipherOfEveryByteAtEveryPlace(t *testing.T) {
	for x := range 256 {
		all := bytes.Repeat([]byte{byte(x)}, 16)
		checkEncipher(t, all, all)
		for at := range 16 {
			one := rising(16, 100)
			one[at] = byte(x)
			checkEncipher(t, one, rising(16, 3))
			checkEncipher(t, rising(16, 3), one)
			checkEncipher(t, one, one)
		}
	}
}

func TestEncipherOfRandomBlocks(t *testing.T) {
	r := rand.New(rand.NewSource(5))
	for range 20000 {
		both := make([]byte, 32)
		r.Read(both)
		checkEncipher(t, both[:16], both[16:])
	}
}

// TestEncipherAgainAndAgain goes from answer to answer, with the answers as keys and as blocks.
func TestEncipherAgainAndAgain(t *testing.T) {
	key, block := raw(t, exampleKey), make([]byte, 16)
	for range 2000 {
		checkEncipher(t, key, block)
		next, errno := Encipher(key, block)
		if errno != api.OK {
			t.Fatal(errno)
		}
		key, block = block, next
	}
}

// wrongSizes are bytes that are neither key nor block.
func wrongSizes() [][]byte {
	wrong := [][]byte{nil, {}, make([]byte, 0, 16), rising(16, 1)[:15], make([]byte, 24), make([]byte, 32), make([]byte, 1<<16)}
	for n := range 80 {
		if n != 16 {
			wrong = append(wrong, rising(n, n))
		}
	}
	return wrong
}

func checkNoBytes(t *testing.T, call string, got []byte, errno api.Errno) {
	t.Helper()
	if got != nil || errno != api.ErrShape {
		t.Errorf("%s = %x, %v; want no bytes, %v", call, got, errno, api.ErrShape)
	}
}

func TestEncipherOfWrongSizes(t *testing.T) {
	right := raw(t, exampleKey)
	for _, wrong := range wrongSizes() {
		got, errno := Encipher(wrong, right)
		checkNoBytes(t, "Encipher with a wrong key", got, errno)
		got, errno = Encipher(right, wrong)
		checkNoBytes(t, "Encipher of a wrong block", got, errno)
		for _, other := range wrongSizes() {
			got, errno = Encipher(wrong, other)
			checkNoBytes(t, "Encipher of two wrong ones", got, errno)
		}
	}
}

// product multiplies in the field, as polynomials, and divides then.
func product(a, b byte) byte {
	whole := 0
	for i := range 8 {
		if b>>i&1 == 1 {
			whole ^= int(a) << i
		}
	}
	for i := 14; i >= 8; i-- {
		if whole>>i&1 == 1 {
			whole ^= 0x11b << (i - 8)
		}
	}
	return byte(whole)
}

func inverse(b byte) byte {
	for v := range 256 {
		if product(b, byte(v)) == 1 {
			return byte(v)
		}
	}
	return 0
}

func TestSOfEveryByte(t *testing.T) {
	s := substitutes()
	for x := range 256 {
		v, want := inverse(byte(x)), byte(0)
		for i := range 8 {
			bit := v>>i ^ v>>((i+4)%8) ^ v>>((i+5)%8) ^ v>>((i+6)%8) ^ v>>((i+7)%8) ^ 0x63>>i
			want |= bit & 1 << i
		}
		if s[x] != want {
			t.Errorf("S of %02x = %02x; want %02x", x, s[x], want)
		}
		if got := double(byte(x)); got != product(byte(x), 2) {
			t.Errorf("twice %02x = %02x; want %02x", x, got, product(byte(x), 2))
		}
	}
	if s[0] != 0x63 || s[1] != 0x7c || s[0x53] != 0xed || s[0xff] != 0x16 {
		t.Errorf("S of 0, 1, 53, ff = %02x, %02x, %02x, %02x", s[0], s[1], s[0x53], s[0xff])
	}
}

// TestRoundKeys holds the round keys against words made one by one.
func TestRoundKeys(t *testing.T) {
	s := substitutes()
	r := rand.New(rand.NewSource(51))
	for range 200 {
		key := make([]byte, 16)
		r.Read(key)
		var words [44][4]byte
		step := byte(1)
		for i := range words {
			if i < 4 {
				copy(words[i][:], key[4*i:])
				continue
			}
			ahead := words[i-1]
			if i%4 == 0 {
				ahead = [4]byte{s[ahead[1]] ^ step, s[ahead[2]], s[ahead[3]], s[ahead[0]]}
				step = product(step, 2)
			}
			for at := range ahead {
				words[i][at] = words[i-4][at] ^ ahead[at]
			}
		}
		c := newCipher(key)
		for i, word := range words {
			if got := c.keys[i/4][i%4*4 : i%4*4+4]; !bytes.Equal(got, word[:]) {
				t.Fatalf("key %x: word %d = %x; want %x", key, i, got, word)
			}
		}
	}
}
