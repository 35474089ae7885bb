package hash

import (
	"bytes"
	"crypto/md5"
	"crypto/sha256"
	"encoding/hex"
	"math/rand"
	"strings"
	"testing"
)

// edgeLengths are where padding needs one block or one more, and where blocks end.
var edgeLengths = []int{0, 1, 2, 3, 54, 55, 56, 57, 62, 63, 64, 65, 118, 119, 120, 121, 126, 127, 128, 129, 183, 184, 191, 192, 193, 247, 248, 256}

// checkDigests holds both digests of b against the library's, and b against what it was.
func checkDigests(t *testing.T, b []byte) {
	t.Helper()
	was := bytes.Clone(b)
	if got, want := MD5(b), md5.Sum(b); !bytes.Equal(got, want[:]) {
		t.Errorf("MD5 of %d bytes %.40x = %x; want %x", len(b), b, got, want)
	}
	if got, want := SHA256(b), sha256.Sum256(b); !bytes.Equal(got, want[:]) {
		t.Errorf("SHA256 of %d bytes %.40x = %x; want %x", len(b), b, got, want)
	}
	if !bytes.Equal(b, was) {
		t.Errorf("%d bytes %.40x were changed to %.40x", len(b), was, b)
	}
}

// rising is n bytes, each one more than the one ahead of it; 251 is prime, so that no two blocks are alike.
func rising(n, first int) []byte {
	b := make([]byte, n)
	for i := range b {
		b[i] = byte((first + i) % 251)
	}
	return b
}

// P4.1
func TestDigestsOfKnownTexts(t *testing.T) {
	for _, r := range []struct{ text, md5, sha256 string }{
		{"", "d41d8cd98f00b204e9800998ecf8427e", "e3b0c44298fc1c149afbf4c8996fb92427ae41e4649b934ca495991b7852b855"},
		{"a", "0cc175b9c0f1b6a831c399e269772661", "ca978112ca1bbdcafac231b39a23dc4da786eff8147c4e72b9807785afee48bb"},
		{"abc", "900150983cd24fb0d6963f7d28e17f72", "ba7816bf8f01cfea414140de5dae2223b00361a396177a9cb410ff61f20015ad"},
		{"message digest", "f96b697d7cb7938d525a2f31aaf161d0", "f7846f55cf23e14eebeab5b4e1550cad5b509e3348fbc4efa3a1413d393cb650"},
		{"abcdefghijklmnopqrstuvwxyz", "c3fcd3d76192e4007dfb496cca67e13b", "71c480df93d6ae2f1efad1447c66c9525e316218cf51fc8d9ed832f2daf18b73"},
		{"abcdbcdecdefdefgefghfghighijhijkijkljklmklmnlmnomnopnopq", "8215ef0796a20bcaaae116d3876c664a", "248d6a61d20638b8e5c026930c3e6039a33ce45964ff2167f6ecedd419db06c1"},
		{"ABCDEFGHIJKLMNOPQRSTUVWXYZabcdefghijklmnopqrstuvwxyz0123456789", "d174ab98d277d9f5a5611c2c9f419d9f", "db4bfcbd4da0cd85a60c3c37d3fbd8805c77f15fc6b1fdfe614ee0a7c8fdb4c0"},
		{strings.Repeat("1234567890", 8), "57edf4a22be3c955ac49da2e2107b67a", "f371bc4a311f2b009eef952dd83ca80e2b60026c8e935592d0f9c308453c813e"},
		{"abcdefghbcdefghicdefghijdefghijkefghijklfghijklmghijklmnhijklmnoijklmnopjklmnopqklmnopqrlmnopqrsmnopqrstnopqrstu", "03dd8807a93175fb062dfb55dc7d359c", "cf5b16a778af8380036ce59e7b0492370b249b11e8f07a51afac45037afee9d1"},
		{strings.Repeat("a", 1000000), "7707d6ae4e027c70eea2a935c2296f21", "cdc76e5c9914fb9281a1c7e284d73e67f1809a48a497200e046d39ccc7112cd0"},
	} {
		if got := hex.EncodeToString(MD5([]byte(r.text))); got != r.md5 {
			t.Errorf("MD5 of %.40q = %s; want %s", r.text, got, r.md5)
		}
		if got := hex.EncodeToString(SHA256([]byte(r.text))); got != r.sha256 {
			t.Errorf("SHA256 of %.40q = %s; want %s", r.text, got, r.sha256)
		}
		checkDigests(t, []byte(r.text))
	}
}

func TestDigestsOfNoBytes(t *testing.T) {
	checkDigests(t, nil)
	checkDigests(t, []byte{})
	checkDigests(t, make([]byte, 0, 100))
	checkDigests(t, rising(64, 1)[64:])
	if !bytes.Equal(MD5(nil), MD5([]byte{})) || !bytes.Equal(SHA256(nil), SHA256([]byte{})) {
		t.Error("nil and empty have other digests")
	}
}

func TestDigestsOfEveryLength(t *testing.T) {
	for n := range 700 {
		checkDigests(t, rising(n, n))
		for _, fill := range []byte{0, 1, 127, 128, 255} {
			checkDigests(t, bytes.Repeat([]byte{fill}, n))
		}
	}
}

func TestDigestsOfEveryByte(t *testing.T) {
	for x := range 256 {
		checkDigests(t, []byte{byte(x)})
		checkDigests(t, []byte{byte(x), 0})
		checkDigests(t, []byte{0, byte(x)})
		for _, n := range edgeLengths {
			checkDigests(t, bytes.Repeat([]byte{byte(x)}, n))
		}
	}
}

// TestDigestsOfPaddedBytes takes bytes that look like padding of others: their digests are other ones.
func TestDigestsOfPaddedBytes(t *testing.T) {
	for _, n := range edgeLengths {
		b := rising(n, 7)
		seen := map[string]int{}
		for end := range 70 {
			padded := append(bytes.Clone(b), 128)
			padded = append(padded, make([]byte, end)...)
			checkDigests(t, padded)
			seen[string(MD5(padded))]++
			seen[string(SHA256(padded))]++
		}
		seen[string(MD5(b))]++
		seen[string(SHA256(b))]++
		if len(seen) != 2*71 {
			t.Errorf("%d bytes and what pads them: %d digests of %d", n, len(seen), 2*71)
		}
	}
}

func TestDigestsWithOneBitChanged(t *testing.T) {
	for _, n := range edgeLengths {
		b := rising(n, 3)
		one, other := MD5(b), SHA256(b)
		for bit := range 8 * n {
			b[bit/8] ^= 1 << (bit % 8)
			checkDigests(t, b)
			if bytes.Equal(MD5(b), one) || bytes.Equal(SHA256(b), other) {
				t.Errorf("bit %d of %d bytes changes no digest", bit, n)
			}
			b[bit/8] ^= 1 << (bit % 8)
		}
	}
}

func TestDigestsOfPiecesOfAList(t *testing.T) {
	all := rising(400, 11)
	for from := range 70 {
		for _, n := range edgeLengths {
			checkDigests(t, all[from:from+n])
			checkDigests(t, all[from:from+n:from+n])
		}
	}
}

func TestDigestsOfRandomBytes(t *testing.T) {
	r := rand.New(rand.NewSource(41))
	for range 3000 {
		b := make([]byte, r.Intn(2000))
		r.Read(b)
		checkDigests(t, b)
	}
	for _, n := range []int{1 << 13, 1<<13 - 1, 1<<16 - 9, 1<<16 - 8, 1 << 16, 1<<20 - 1, 1 << 20, 1<<20 + 1} {
		b := make([]byte, n)
		r.Read(b)
		checkDigests(t, b)
	}
}

// TestDigestsOfManyBytes takes so many that the number of bits needs more than 32 bits.
func TestDigestsOfManyBytes(t *testing.T) {
	if testing.Short() {
		t.Skip("takes seconds")
	}
	b := make([]byte, 1<<29+61)
	b[1<<29] = 255
	if got, want := MD5(b), md5.Sum(b); !bytes.Equal(got, want[:]) {
		t.Errorf("MD5 = %x; want %x", got, want)
	}
	if got, want := SHA256(b), sha256.Sum256(b); !bytes.Equal(got, want[:]) {
		t.Errorf("SHA256 = %x; want %x", got, want)
	}
}
