package mac

import (
	"bytes"
	"crypto/md5"
	"crypto/sha256"
	"encoding/hex"
	"math"
	"math/rand"
	"slices"
	"testing"
	"time"

	"sundial/aes"
	"sundial/api"
)

// messageLengths are none, and where blocks of 16 and of 64 bytes end, also behind a key of 1, 16 or 64 bytes.
var messageLengths = []int{0, 1, 15, 16, 17, 31, 32, 33, 38, 39, 40, 47, 48, 49, 54, 55, 56, 62, 63, 64, 65, 119, 120, 127, 128, 129, 200, 468, 1024}

// digestOf is the digest by the chapter's definition, and by the library where it has one.
func digestOf(t *testing.T, k api.Key, m []byte) []byte {
	t.Helper()
	both := append(bytes.Clone(k.Bytes), m...)
	switch k.Kind {
	case api.KeyMD5:
		digest := md5.Sum(both)
		return digest[:]
	case api.KeySHA256:
		digest := sha256.Sum256(both)
		return digest[:20]
	}
	digest, errno := aes.CMAC(k.Bytes, m)
	if errno != api.OK {
		t.Fatalf("CMAC with a key of %d bytes: %v", len(k.Bytes), errno)
	}
	return digest
}

func checkMake(t *testing.T, k api.Key, m []byte) {
	t.Helper()
	want := digestOf(t, k, m)
	if got, errno := Make(k, m); !bytes.Equal(got, want) || errno != api.OK {
		t.Errorf("Make(%v, %d bytes %.40x) = %x, %v; want %x, E0", k, len(m), m, got, errno, want)
	}
}

// raw is bytes out of the base sixteen.
func raw(t *testing.T, text string) []byte {
	t.Helper()
	b, err := hex.DecodeString(text)
	if err != nil {
		t.Fatal(err)
	}
	return b
}

// P6.2
func TestMakeOfKnownDigests(t *testing.T) {
	secret := "2b7e151628aed2a6abf7158809cf4f3c"
	block := "6bc1bee22e409f96e93d7e117393172a"
	for _, r := range []struct {
		kind         api.KeyKind
		key, m, want string
	}{
		{api.KeyMD5, "6162", "63", "900150983cd24fb0d6963f7d28e17f72"},
		{api.KeyMD5, "61", "6263", "900150983cd24fb0d6963f7d28e17f72"},
		{api.KeyMD5, "616263", "", "900150983cd24fb0d6963f7d28e17f72"},
		{api.KeyMD5, "6d657373", "61676520646967657374", "f96b697d7cb7938d525a2f31aaf161d0"},
		{api.KeySHA256, "61", "6263", "ba7816bf8f01cfea414140de5dae2223b00361a3"},
		{api.KeySHA256, "616263", "", "ba7816bf8f01cfea414140de5dae2223b00361a3"},
		{api.KeySHA256, "6d657373", "61676520646967657374", "f7846f55cf23e14eebeab5b4e1550cad5b509e33"},
		{api.KeyCMAC, secret, "", "bb1d6929e95937287fa37d129b756746"},
		{api.KeyCMAC, secret, block, "070a16b46b4d4144f79bdd9dd04a287c"},
		{api.KeyCMAC, secret, block + "ae2d8a571e03ac9c9eb76fac45af8e5130c81c46a35ce411", "dfa66747de9ae63030ca32611497c827"},
	} {
		for _, id := range []uint32{1, 77, math.MaxUint32} {
			got, errno := Make(api.Key{ID: id, Kind: r.kind, Bytes: raw(t, r.key)}, raw(t, r.m))
			if hex.EncodeToString(got) != r.want || errno != api.OK {
				t.Errorf("Make of kind %d, %s, over %s = %x, %v; want %s, E0", r.kind, r.key, r.m, got, errno, r.want)
			}
		}
	}
}

func TestMakeOfEveryLength(t *testing.T) {
	for n := range 65 {
		for _, kind := range kinds {
			if n == 0 || kind == api.KeyCMAC && n != 16 {
				continue
			}
			for _, length := range messageLengths {
				checkMake(t, sized(1, kind, n), rising(length, n))
			}
		}
	}
	for length := range 300 {
		for _, kind := range kinds {
			checkMake(t, right(5, kind), rising(length, 2*length))
			checkMake(t, right(5, kind), bytes.Repeat([]byte{0}, length))
			checkMake(t, right(5, kind), bytes.Repeat([]byte{255}, length))
		}
	}
}

func TestMakeOfNoBytes(t *testing.T) {
	for _, kind := range kinds {
		for _, m := range [][]byte{nil, {}, make([]byte, 0, 100), rising(64, 1)[64:]} {
			checkMake(t, right(1, kind), m)
			checkMake(t, right(math.MaxUint32, kind), m)
		}
	}
}

func TestMakeOfRandomMessages(t *testing.T) {
	r := rand.New(rand.NewSource(6))
	for range 2000 {
		k := api.Key{ID: 1 + r.Uint32()>>1, Kind: kinds[r.Intn(3)], Bytes: make([]byte, 1+r.Intn(64))}
		if k.Kind == api.KeyCMAC {
			k.Bytes = make([]byte, 16)
		}
		m := make([]byte, r.Intn(600))
		r.Read(k.Bytes)
		r.Read(m)
		checkMake(t, k, m)
	}
	for _, kind := range kinds {
		checkMake(t, right(3, kind), rising(1<<20+1, 3))
	}
}

// wrongKeys are keys that are none, each by one fault, and some by more.
func wrongKeys() []api.Key {
	wrong := []api.Key{{}, {ID: 1}, {ID: 1, Kind: api.KeyCMAC}, {Kind: 3, Bytes: rising(65, 1)}}
	for _, kind := range kinds {
		wrong = append(wrong, right(0, kind), sized(1, kind, 0), sized(1, kind, 65), sized(1, kind, 1000), sized(0, kind, 65))
	}
	for n := range 100 {
		if n != 16 {
			wrong = append(wrong, sized(1, api.KeyCMAC, n))
		}
	}
	for _, kind := range []api.KeyKind{-1, 3, 4, 256, math.MaxInt, math.MinInt} {
		wrong = append(wrong, right(1, kind), sized(1, kind, 1), right(0, kind))
	}
	return wrong
}

func TestMakeWithWrongKeys(t *testing.T) {
	for _, k := range wrongKeys() {
		for _, m := range [][]byte{nil, {}, rising(1, 1), rising(16, 1), rising(100, 1)} {
			if got, errno := Make(k, m); got != nil || errno != api.ErrShape {
				t.Errorf("Make(%v, %d bytes) = %x, %v; want no bytes, %v", k, len(m), got, errno, api.ErrShape)
			}
		}
	}
}

func checkSame(t *testing.T, a, b []byte, want bool) {
	t.Helper()
	if Same(a, b) != want || Same(b, a) != want {
		t.Errorf("Same(%.40x, %.40x) = %t, and turned %t; want %t", a, b, Same(a, b), Same(b, a), want)
	}
}

func TestSameOfNoBytes(t *testing.T) {
	none := [][]byte{nil, {}, make([]byte, 0, 10), rising(3, 1)[3:]}
	for _, a := range none {
		for _, b := range none {
			checkSame(t, a, b, true)
		}
		for n := 1; n < 40; n++ {
			checkSame(t, a, rising(n, 0), false)
			checkSame(t, a, make([]byte, n), false)
		}
	}
}

func TestSameOfEveryPairOfBytes(t *testing.T) {
	for a := range 256 {
		for b := range 256 {
			checkSame(t, []byte{byte(a)}, []byte{byte(b)}, a == b)
			checkSame(t, []byte{7, byte(a), 9}, []byte{7, byte(b), 9}, a == b)
			checkSame(t, []byte{byte(a), byte(b)}, []byte{byte(b), byte(a)}, a == b)
		}
	}
}

func TestSameOfOtherLengths(t *testing.T) {
	for n := range 70 {
		for other := range 70 {
			checkSame(t, rising(n, 3), rising(other, 3), n == other)
			checkSame(t, make([]byte, n), make([]byte, other), n == other)
		}
	}
}

func TestSameWithBytesTurned(t *testing.T) {
	for n := range 66 {
		for bit := range 8 * n {
			b := rising(n, 5)
			b[bit/8] ^= 1 << (bit % 8)
			checkSame(t, rising(n, 5), b, false)
			// Neither a second difference like the first one nor one in each byte undoes it.
			b[n-1-bit/8] ^= 1 << (bit % 8)
			checkSame(t, rising(n, 5), b, 2*(bit/8) == n-1)
			all := rising(n, 5)
			for i := range all {
				all[i] ^= 1 << (bit % 8)
			}
			checkSame(t, rising(n, 5), all, false)
		}
	}
}

func TestSameOfOneList(t *testing.T) {
	b := slices.Concat(rising(40, 1), rising(40, 1))
	checkSame(t, b, b, true)
	checkSame(t, b[:40], b[40:], true)
	checkSame(t, b[:40], b[1:41], false)
	checkSame(t, b[:40:40], b[40:], true)
}

// shortest is the least time that Same of a and b took of some tries: other work on the machine makes a try longer, never shorter.
func shortest(a, b []byte) time.Duration {
	least := time.Duration(math.MaxInt64)
	for range 9 {
		from := time.Now()
		Same(a, b)
		least = min(least, time.Since(from))
	}
	return least
}

// TestSameLooksAtEachByte: what stopped at the first of four million bytes would take a millionth of the time, not a twentieth.
func TestSameLooksAtEachByte(t *testing.T) {
	a := rising(1<<22, 1)
	all := shortest(a, bytes.Clone(a))
	for _, at := range []int{0, 1, 63, 4095, len(a) / 100} {
		b := bytes.Clone(a)
		b[at] ^= 1
		checkSame(t, a, b, false)
		if took := shortest(a, b); took < all/20 {
			t.Errorf("with byte %d of %d turned Same took %v, of bytes that are the same %v", at, len(a), took, all)
		}
	}
}
