package hash

import (
	"encoding/hex"
	"math/rand"
	"testing"
)

// P4.2
func TestHexExamples(t *testing.T) {
	for _, r := range []struct {
		b    []byte
		want string
	}{
		{nil, ""}, {[]byte{}, ""}, {[]byte{0}, "00"}, {[]byte{0, 0}, "0000"}, {[]byte{1}, "01"}, {[]byte{9}, "09"}, {[]byte{10}, "0a"}, {[]byte{15}, "0f"}, {[]byte{16}, "10"},
		{[]byte{127}, "7f"}, {[]byte{128}, "80"}, {[]byte{159}, "9f"}, {[]byte{160}, "a0"}, {[]byte{250}, "fa"}, {[]byte{255}, "ff"}, {[]byte{255, 255, 0}, "ffff00"},
		{[]byte{0, 9, 10, 255, 160}, "00090affa0"}, {[]byte{0x01, 0x23, 0x45, 0x67, 0x89, 0xab, 0xcd, 0xef}, "0123456789abcdef"}, {[]byte("Az "), "417a20"},
	} {
		if got := Hex(r.b); got != r.want {
			t.Errorf("Hex(%v) = %q; want %q", r.b, got, r.want)
		}
	}
}

func TestHexOfDigests(t *testing.T) {
	for _, r := range []struct {
		digest []byte
		want   string
	}{
		{MD5(nil), "d41d8cd98f00b204e9800998ecf8427e"}, {MD5([]byte("abc")), "900150983cd24fb0d6963f7d28e17f72"},
		{SHA256(nil), "e3b0c44298fc1c149afbf4c8996fb92427ae41e4649b934ca495991b7852b855"},
		{SHA256([]byte("abc")), "ba7816bf8f01cfea414140de5dae2223b00361a396177a9cb410ff61f20015ad"},
	} {
		if got := Hex(r.digest); got != r.want {
			t.Errorf("Hex(%v) = %q; want %q", r.digest, got, r.want)
		}
	}
}

func checkHex(t *testing.T, b []byte) {
	t.Helper()
	if got, want := Hex(b), hex.EncodeToString(b); got != want {
		t.Errorf("Hex(%v) = %q; want %q", b, got, want)
	}
}

func TestHexOfEveryPair(t *testing.T) {
	for x := range 256 {
		checkHex(t, []byte{byte(x)})
		for y := range 256 {
			checkHex(t, []byte{byte(x), byte(y)})
		}
	}
}

func TestHexOfRandomBytes(t *testing.T) {
	r := rand.New(rand.NewSource(42))
	for n := range 2000 {
		b := make([]byte, n)
		r.Read(b)
		checkHex(t, b)
	}
	checkHex(t, make([]byte, 1<<20))
}
