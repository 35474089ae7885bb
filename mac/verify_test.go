package mac

import (
	"bytes"
	"math"
	"math/rand"
	"slices"
	"testing"

	"sundial/api"
)

func checkVerify(t *testing.T, ring []api.Key, id uint32, m, digest []byte, want api.Errno) {
	t.Helper()
	if errno := Verify(ring, id, m, digest); errno != want {
		t.Errorf("Verify of %d keys, %d, over %d bytes %.40x, of %x = %v; want %v", len(ring), id, len(m), m, digest, errno, want)
	}
}

// made is the digest of m by k, as Make makes it.
func made(t *testing.T, k api.Key, m []byte) []byte {
	t.Helper()
	digest, errno := Make(k, m)
	if len(digest) < 16 || errno != api.OK {
		t.Fatalf("Make(%v, %d bytes) = %x, %v", k, len(m), digest, errno)
	}
	return digest
}

// P6.3
func TestVerifyOfTheExamples(t *testing.T) {
	ring := []api.Key{{ID: 1, Kind: api.KeyMD5, Bytes: []byte("ab")}, {ID: 2, Kind: api.KeySHA256, Bytes: []byte("a")}}
	checkVerify(t, ring, 1, []byte("c"), raw(t, "900150983cd24fb0d6963f7d28e17f72"), api.OK)
	checkVerify(t, ring, 2, []byte("bc"), raw(t, "ba7816bf8f01cfea414140de5dae2223b00361a3"), api.OK)
	checkVerify(t, ring, 3, []byte("c"), raw(t, "900150983cd24fb0d6963f7d28e17f72"), api.ErrKey)
	checkVerify(t, ring, 1, []byte("c"), raw(t, "900150983cd24fb0d6963f7d28e17f73"), api.ErrMac)
	checkVerify(t, ring, 2, []byte("bc"), raw(t, "ba7816bf8f01cfea414140de5dae2223b00361a396177a9cb410ff61f20015ad"), api.ErrMac)
}

func TestVerifyHasTheErrorsOfFind(t *testing.T) {
	one, two := right(1, api.KeyMD5), right(2, api.KeyCMAC)
	m := rising(48, 1)
	digest := made(t, one, m)
	for _, d := range [][]byte{digest, nil, {}, rising(16, 1)} {
		checkVerify(t, nil, 1, m, d, api.ErrKey)
		checkVerify(t, []api.Key{}, 1, m, d, api.ErrKey)
		checkVerify(t, []api.Key{one, two}, 3, m, d, api.ErrKey)
		checkVerify(t, []api.Key{one, two}, 0, m, d, api.ErrKey)
		checkVerify(t, []api.Key{one, two, two}, 1, m, d, api.ErrTwice)
		checkVerify(t, []api.Key{one, two, one}, 1, m, d, api.ErrTwice)
		checkVerify(t, []api.Key{one, two, two}, 3, m, d, api.ErrTwice)
		checkVerify(t, ringOf(65), 1, m, d, api.ErrShape)
		checkVerify(t, ringOf(65), 99, m, d, api.ErrShape)
		for _, wrong := range wrongKeys() {
			checkVerify(t, []api.Key{one, wrong}, 1, m, d, api.ErrShape)
			checkVerify(t, []api.Key{one, one, wrong}, 1, m, d, api.ErrShape)
			checkVerify(t, []api.Key{wrong, one, one}, 3, m, d, api.ErrShape)
		}
	}
}

func TestVerifyOfEveryKeyOfARing(t *testing.T) {
	m := rising(48, 1)
	for _, n := range []int{1, 2, 3, 63, 64} {
		ring := ringOf(n)
		for _, k := range ring {
			for _, maker := range ring {
				want := api.ErrMac
				if k.ID == maker.ID {
					want = api.OK
				}
				checkVerify(t, ring, k.ID, m, made(t, maker, m), want)
			}
		}
	}
}

func TestVerifyWithEdgeIDs(t *testing.T) {
	ids := []uint32{1, 2, 1 << 31, math.MaxUint32 - 1, math.MaxUint32}
	for _, kind := range kinds {
		var ring []api.Key
		for i, id := range ids {
			ring = append(ring, api.Key{ID: id, Kind: kind, Bytes: rising(16, 40*i)})
		}
		for at, id := range ids {
			for maker := range ring {
				want := api.ErrMac
				if at == maker {
					want = api.OK
				}
				checkVerify(t, ring, id, rising(20, 2), made(t, ring[maker], rising(20, 2)), want)
			}
			checkVerify(t, slices.Delete(slices.Clone(ring), at, at+1), id, rising(20, 2), made(t, ring[at], rising(20, 2)), api.ErrKey)
		}
	}
}

// TestVerifyOfTheMessage: the digest of other bytes is no digest of these.
func TestVerifyOfTheMessage(t *testing.T) {
	for _, k := range ringOf(3) {
		for _, n := range messageLengths {
			m := rising(n, 4)
			digest := made(t, k, m)
			checkVerify(t, ringOf(3), k.ID, m, digest, api.OK)
			checkVerify(t, ringOf(3), k.ID, append(bytes.Clone(m), 0), digest, api.ErrMac)
			checkVerify(t, ringOf(3), k.ID, append([]byte{0}, m...), digest, api.ErrMac)
			if n > 0 {
				checkVerify(t, ringOf(3), k.ID, m[1:], digest, api.ErrMac)
				checkVerify(t, ringOf(3), k.ID, m[:n-1], digest, api.ErrMac)
			}
			for i := range m {
				m[i] ^= 0x10
				checkVerify(t, ringOf(3), k.ID, m, digest, api.ErrMac)
				m[i] ^= 0x10
			}
		}
	}
}

// P6.4
func TestVerifyTakesWhatMakeMade(t *testing.T) {
	for n := 1; n <= 64; n++ {
		ring := []api.Key{sized(1, api.KeyMD5, n), sized(2, api.KeySHA256, n), sized(math.MaxUint32, api.KeyCMAC, 16)}
		for _, k := range ring {
			for _, length := range messageLengths {
				m := rising(length, n)
				checkVerify(t, ring, k.ID, m, made(t, k, m), api.OK)
			}
			checkVerify(t, ring, k.ID, nil, made(t, k, []byte{}), api.OK)
			checkVerify(t, ring, k.ID, []byte{}, made(t, k, nil), api.OK)
		}
	}
}

func TestVerifyTakesNoDigestOfAnotherLength(t *testing.T) {
	for _, k := range ringOf(3) {
		for _, n := range []int{0, 16, 48, 100} {
			m := rising(n, 8)
			digest := made(t, k, m)
			for less := range len(digest) {
				checkVerify(t, ringOf(3), k.ID, m, digest[:less], api.ErrMac)
				checkVerify(t, ringOf(3), k.ID, m, digest[len(digest)-less:], api.ErrMac)
			}
			checkVerify(t, ringOf(3), k.ID, m, nil, api.ErrMac)
			checkVerify(t, ringOf(3), k.ID, m, []byte{}, api.ErrMac)
			for _, more := range [][]byte{{0}, {255}, digest[:1], {0, 0, 0, 0}, digest} {
				checkVerify(t, ringOf(3), k.ID, m, slices.Concat(digest, more), api.ErrMac)
				checkVerify(t, ringOf(3), k.ID, m, slices.Concat(more, digest), api.ErrMac)
			}
		}
	}
}

func TestVerifyTakesNoDigestWithAnotherByte(t *testing.T) {
	for _, k := range ringOf(3) {
		for _, n := range []int{0, 16, 48} {
			m := rising(n, 8)
			digest := made(t, k, m)
			for at := range digest {
				was := digest[at]
				for x := range 256 {
					want := api.ErrMac
					if byte(x) == was {
						want = api.OK
					}
					digest[at] = byte(x)
					checkVerify(t, ringOf(3), k.ID, m, digest, want)
				}
				digest[at] = was
			}
			checkVerify(t, ringOf(3), k.ID, m, make([]byte, len(digest)), api.ErrMac)
			slices.Reverse(digest)
			checkVerify(t, ringOf(3), k.ID, m, digest, api.ErrMac)
		}
	}
}

func TestVerifyOfRandomDigests(t *testing.T) {
	r := rand.New(rand.NewSource(61))
	ring := ringOf(12)
	for range 3000 {
		k := ring[r.Intn(len(ring))]
		m, digest := make([]byte, r.Intn(200)), make([]byte, 12+r.Intn(12))
		r.Read(m)
		r.Read(digest)
		checkVerify(t, ring, k.ID, m, digest, api.ErrMac)
		checkVerify(t, ring, k.ID, m, made(t, k, m), api.OK)
	}
}
