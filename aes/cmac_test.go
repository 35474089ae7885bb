package aes

import (
	"bytes"
	"encoding/hex"
	"math/big"
	"math/rand"
	"testing"

	"sundial/api"
)

// edgeLengths are where a message's last block is whole, or almost, or just begun.
var edgeLengths = []int{0, 1, 2, 14, 15, 16, 17, 18, 30, 31, 32, 33, 40, 47, 48, 49, 63, 64, 65, 80, 159, 160, 161}

// subkeys are K1 and K2 by numbers of any size, and whether a bit fell out for each.
func subkeys(key []byte) (keys [2][]byte, fell [2]bool) {
	n := new(big.Int).SetBytes(libraryBlock(key, make([]byte, 16)))
	for i := range keys {
		n.Lsh(n, 1)
		if n.Bit(128) == 1 {
			fell[i] = true
			n.SetBit(n, 128, 0)
			n.Xor(n, big.NewInt(0x87))
		}
		keys[i] = n.FillBytes(make([]byte, 16))
	}
	return keys, fell
}

func xored(a, b []byte) []byte {
	out := make([]byte, len(a))
	for i := range a {
		out[i] = a[i] ^ b[i]
	}
	return out
}

// libraryTag is the tag of m by the library's cipher.
func libraryTag(key, m []byte) []byte {
	keys, _ := subkeys(key)
	tag := make([]byte, 16)
	for len(m) > 16 {
		tag = libraryBlock(key, xored(tag, m[:16]))
		m = m[16:]
	}
	if len(m) == 16 {
		return libraryBlock(key, xored(tag, xored(m, keys[0])))
	}
	end := append(bytes.Clone(m), 0x80)
	for len(end) < 16 {
		end = append(end, 0)
	}
	return libraryBlock(key, xored(tag, xored(end, keys[1])))
}

func checkCMAC(t *testing.T, key, m []byte) {
	t.Helper()
	if got, errno := CMAC(key, m); !bytes.Equal(got, libraryTag(key, m)) || errno != api.OK {
		t.Errorf("CMAC(%x, %d bytes %.40x) = %x, %v; want %x, E0", key, len(m), m, got, errno, libraryTag(key, m))
	}
}

// tagOf is the tag of m by the example's key.
func tagOf(t *testing.T, m []byte) []byte {
	t.Helper()
	tag, errno := CMAC(raw(t, exampleKey), m)
	if len(tag) != 16 || errno != api.OK {
		t.Fatalf("CMAC of %d bytes = %x, %v; want 16 bytes, E0", len(m), tag, errno)
	}
	return tag
}

// P5.2
func TestCMACOfKnownMessages(t *testing.T) {
	all := "6bc1bee22e409f96e93d7e117393172aae2d8a571e03ac9c9eb76fac45af8e5130c81c46a35ce411e5fbc1191a0a52eff69f2445df4f9b17ad2b417be66c3710"
	for _, r := range []struct {
		n    int
		want string
	}{
		{0, "bb1d6929e95937287fa37d129b756746"}, {16, "070a16b46b4d4144f79bdd9dd04a287c"}, {20, "7d85449ea6ea19c823a7bf78837dfade"},
		{40, "dfa66747de9ae63030ca32611497c827"}, {64, "51f0bebf7e3b9d92fc49741779363cfe"},
	} {
		if got := tagOf(t, raw(t, all[:2*r.n])); hex.EncodeToString(got) != r.want {
			t.Errorf("CMAC of %d bytes = %x; want %s", r.n, got, r.want)
		}
	}
}

func TestCMACOfNoBytes(t *testing.T) {
	whole := rising(32, 1)
	for _, m := range [][]byte{nil, {}, make([]byte, 0, 100), whole[:0], whole[32:]} {
		if got := tagOf(t, m); hex.EncodeToString(got) != "bb1d6929e95937287fa37d129b756746" {
			t.Errorf("CMAC of no bytes = %x", got)
		}
		checkCMAC(t, make([]byte, 16), m)
	}
}

func TestCMACOfEveryLength(t *testing.T) {
	for n := range 600 {
		checkCMAC(t, raw(t, exampleKey), rising(n, n))
		checkCMAC(t, rising(16, n), rising(n, 7))
		for _, fill := range []byte{0, 1, 127, 128, 255} {
			checkCMAC(t, rising(16, 9), bytes.Repeat([]byte{fill}, n))
		}
	}
}

func TestCMACOfEveryByte(t *testing.T) {
	for x := range 256 {
		for _, n := range edgeLengths {
			checkCMAC(t, rising(16, 2), bytes.Repeat([]byte{byte(x)}, n))
			checkCMAC(t, bytes.Repeat([]byte{byte(x)}, 16), rising(n, 2))
		}
	}
}

// TestCMACWithBitsThatFallOut takes keys of all four kinds: a bit falls out of L or not, and of K1 or not.
func TestCMACWithBitsThatFallOut(t *testing.T) {
	r := rand.New(rand.NewSource(52))
	kinds := map[[2]bool]int{}
	for range 400 {
		key := make([]byte, 16)
		r.Read(key)
		keys, fell := subkeys(key)
		kinds[fell]++
		first := toBlock(libraryBlock(key, make([]byte, 16))).shifted()
		second := first.shifted()
		if !bytes.Equal(first[:], keys[0]) || !bytes.Equal(second[:], keys[1]) {
			t.Errorf("key %x: K1 %x, K2 %x; want %x", key, first, second, keys)
		}
		for _, n := range edgeLengths {
			checkCMAC(t, key, rising(n, n))
		}
	}
	for _, fell := range [][2]bool{{false, false}, {false, true}, {true, false}, {true, true}} {
		if kinds[fell] < 20 {
			t.Errorf("%d keys whose bits fall out like %v", kinds[fell], fell)
		}
	}
}

func TestShifted(t *testing.T) {
	for _, r := range []struct{ b, want string }{
		{"00000000000000000000000000000000", "00000000000000000000000000000000"},
		{"00000000000000000000000000000001", "00000000000000000000000000000002"},
		{"00000000000000000000000000000080", "00000000000000000000000000000100"},
		{"01808080808080808080808080808080", "03010101010101010101010101010100"},
		{"40000000000000000000000000000000", "80000000000000000000000000000000"},
		{"80000000000000000000000000000000", "00000000000000000000000000000087"},
		{"80000000000000000000000000000001", "00000000000000000000000000000085"},
		{"ffffffffffffffffffffffffffffffff", "ffffffffffffffffffffffffffffff79"},
		{"7df76b0c1ab899b33e42f047b91b546f", "fbeed618357133667c85e08f7236a8de"},
		{"fbeed618357133667c85e08f7236a8de", "f7ddac306ae266ccf90bc11ee46d513b"},
	} {
		if got := toBlock(raw(t, r.b)).shifted(); hex.EncodeToString(got[:]) != r.want {
			t.Errorf("%s shifted = %x; want %s", r.b, got, r.want)
		}
	}
}

// TestCMACOfPaddedMessages takes messages that look like padded ones: their tags are other ones.
func TestCMACOfPaddedMessages(t *testing.T) {
	for _, n := range edgeLengths {
		seen := map[string]int{string(tagOf(t, rising(n, 7))): n}
		for end := range 40 {
			padded := append(rising(n, 7), 0x80)
			padded = append(padded, make([]byte, end)...)
			checkCMAC(t, raw(t, exampleKey), padded)
			seen[string(tagOf(t, padded))] = len(padded)
		}
		if len(seen) != 41 {
			t.Errorf("%d bytes and what pads them: %d tags of 41", n, len(seen))
		}
	}
}

func TestCMACWithOneBitChanged(t *testing.T) {
	for _, n := range edgeLengths {
		m := rising(n, 3)
		want := tagOf(t, m)
		for bit := range 8 * n {
			m[bit/8] ^= 1 << (bit % 8)
			if bytes.Equal(tagOf(t, m), want) {
				t.Errorf("%d bytes: bit %d is in the tag nowhere", n, bit)
			}
			m[bit/8] ^= 1 << (bit % 8)
		}
		for bit := range 128 {
			key := raw(t, exampleKey)
			key[bit/8] ^= 1 << (bit % 8)
			if tag, _ := CMAC(key, m); bytes.Equal(tag, want) {
				t.Errorf("%d bytes: the key's bit %d is in the tag nowhere", n, bit)
			}
		}
	}
}

func TestCMACOfRandomMessages(t *testing.T) {
	r := rand.New(rand.NewSource(53))
	for n := range 1500 {
		key, m := make([]byte, 16), make([]byte, n)
		r.Read(key)
		r.Read(m)
		checkCMAC(t, key, m)
	}
}

func TestCMACOfLongMessages(t *testing.T) {
	for _, n := range []int{1<<20 - 1, 1 << 20, 1<<20 + 1, 3000000} {
		checkCMAC(t, rising(16, 4), rising(n, 4))
	}
}

func TestCMACWithWrongKeys(t *testing.T) {
	for _, wrong := range wrongSizes() {
		for _, m := range [][]byte{nil, {}, rising(1, 1), rising(15, 1), rising(16, 1), rising(17, 1), rising(100, 1)} {
			got, errno := CMAC(wrong, m)
			checkNoBytes(t, "CMAC with a wrong key", got, errno)
		}
	}
}
