package mac

import (
	"bytes"
	"math"
	"slices"
	"testing"

	"sundial/api"
)

var kinds = []api.KeyKind{api.KeyMD5, api.KeySHA256, api.KeyCMAC}

// rising is n bytes, each one more than the one ahead of it; 251 is prime, so that no two blocks are alike.
func rising(n, first int) []byte {
	b := make([]byte, n)
	for i := range b {
		b[i] = byte((first + i) % 251)
	}
	return b
}

// sized is a key of n bytes; what its bytes are hangs on its ID.
func sized(id uint32, kind api.KeyKind, n int) api.Key {
	return api.Key{ID: id, Kind: kind, Bytes: rising(n, int(id%251))}
}

// right is a key of a length that every kind takes.
func right(id uint32, kind api.KeyKind) api.Key { return sized(id, kind, 16) }

// ringOf is a ring of n keys of all kinds, with the IDs 1 to n.
func ringOf(n int) []api.Key {
	ring := make([]api.Key, n)
	for i := range ring {
		ring[i] = right(uint32(i+1), kinds[i%len(kinds)])
	}
	return ring
}

func sameKey(a, b api.Key) bool {
	return a.ID == b.ID && a.Kind == b.Kind && bytes.Equal(a.Bytes, b.Bytes)
}

func checkNoKey(t *testing.T, ring []api.Key, id uint32, want api.Errno) {
	t.Helper()
	if k, errno := Find(ring, id); k.ID != 0 || k.Kind != 0 || k.Bytes != nil || errno != want {
		t.Errorf("Find(%v, %d) = %v, %v; want no key, %v", ring, id, k, errno, want)
	}
}

// checkRing holds Check and Find of every ID against want, the error of the ring or OK.
func checkRing(t *testing.T, ring []api.Key, want api.Errno) {
	t.Helper()
	if errno := Check(ring); errno != want {
		t.Errorf("Check(%v) = %v; want %v", ring, errno, want)
	}
	absent := want
	if want == api.OK {
		absent = api.ErrKey
	}
	for _, id := range []uint32{0, 1 << 30, math.MaxUint32 - 7} {
		checkNoKey(t, ring, id, absent)
	}
	for _, k := range ring {
		if want != api.OK {
			checkNoKey(t, ring, k.ID, want)
		} else if got, errno := Find(ring, k.ID); !sameKey(got, k) || errno != api.OK {
			t.Errorf("Find(%v, %d) = %v, %v; want %v, E0", ring, k.ID, got, errno, k)
		}
	}
}

// P6.1
func TestRingsOfTheExamples(t *testing.T) {
	checkRing(t, []api.Key{right(1, api.KeyMD5), right(2, api.KeySHA256), right(1, api.KeyMD5)}, api.ErrTwice)
	checkRing(t, []api.Key{right(0, api.KeyMD5)}, api.ErrShape)
	checkRing(t, []api.Key{sized(1, api.KeyCMAC, 15)}, api.ErrShape)
}

func TestRingsOfOneKeyOfEveryLength(t *testing.T) {
	for n := range 300 {
		for _, kind := range kinds {
			want := api.ErrShape
			if n >= 1 && n <= 64 && (kind != api.KeyCMAC || n == 16) {
				want = api.OK
			}
			checkRing(t, []api.Key{sized(7, kind, n)}, want)
		}
	}
	for _, kind := range kinds {
		checkRing(t, []api.Key{{ID: 7, Kind: kind}}, api.ErrShape)
		checkRing(t, []api.Key{{ID: 7, Kind: kind, Bytes: make([]byte, 0, 16)}}, api.ErrShape)
		checkRing(t, []api.Key{sized(7, kind, 1<<20)}, api.ErrShape)
	}
}

func TestRingsOfOneKeyOfOtherKinds(t *testing.T) {
	for _, kind := range []api.KeyKind{-1, -2, -3, 3, 4, 5, 256, 257, 258, 1 << 16, math.MaxInt, math.MinInt, math.MinInt + 1, math.MinInt + 2} {
		for _, n := range []int{0, 1, 15, 16, 17, 64, 65} {
			checkRing(t, []api.Key{sized(7, kind, n)}, api.ErrShape)
		}
	}
}

func TestRingsOfEdgeIDs(t *testing.T) {
	for _, kind := range kinds {
		for _, id := range []uint32{1, 2, 255, 256, 65535, 65536, math.MaxInt32, math.MaxInt32 + 1, math.MaxUint32 - 1, math.MaxUint32} {
			checkRing(t, []api.Key{right(id, kind)}, api.OK)
			checkRing(t, []api.Key{right(id, kind), right(id^1<<16|4, kind)}, api.OK)
			checkRing(t, []api.Key{right(id, kind), right(id, kind)}, api.ErrTwice)
			checkRing(t, []api.Key{right(id, kind), right(0, kind)}, api.ErrShape)
		}
		checkRing(t, []api.Key{right(0, kind)}, api.ErrShape)
		checkRing(t, []api.Key{right(math.MaxUint32, kind), right(1, kind), right(math.MaxUint32-1, kind), right(1<<31, kind)}, api.OK)
	}
}

func TestRingsOfEverySize(t *testing.T) {
	checkRing(t, nil, api.OK)
	checkRing(t, []api.Key{}, api.OK)
	checkRing(t, ringOf(64)[64:], api.OK)
	for n := range 65 {
		checkRing(t, ringOf(n), api.OK)
		upward := ringOf(n)
		slices.Reverse(upward)
		checkRing(t, upward, api.OK)
	}
	for _, n := range []int{65, 66, 100, 1000} {
		checkRing(t, ringOf(n), api.ErrShape)
	}
	if errno := Check(make([]api.Key, 1<<16)); errno != api.ErrShape {
		t.Errorf("Check of 65536 zero keys = %v", errno)
	}
}

// Keys that differ in all but their ID are twice one, too; keys that are alike but for it aren't.
func TestRingsWithOneIDTwice(t *testing.T) {
	for _, n := range []int{2, 3, 5, 17, 64} {
		for i := range n {
			for j := range n {
				ring := ringOf(n)
				ring[i].Bytes = ring[j].Bytes
				if i == j {
					checkRing(t, ring, api.OK)
					continue
				}
				ring[i].Kind = ring[j].Kind
				checkRing(t, ring, api.OK)
				ring[i] = api.Key{ID: ring[j].ID, Kind: api.KeyMD5, Bytes: []byte{9}}
				if errno := Check(ring); errno != api.ErrTwice {
					t.Errorf("%d keys, %d and %d with one ID: %v; want %v", n, i, j, errno, api.ErrTwice)
				}
			}
		}
	}
}

// What is no key comes first, wherever it stands.
func TestRingsWithOneIDTwiceAndAnotherFault(t *testing.T) {
	wrong := []api.Key{{}, right(0, api.KeyMD5), sized(40, api.KeyMD5, 0), sized(40, api.KeySHA256, 65), sized(40, api.KeyCMAC, 17), right(40, 3), right(40, -1), sized(2, api.KeyMD5, 0)}
	for _, bad := range wrong {
		for at := range 5 {
			ring := []api.Key{right(2, api.KeyMD5), right(1, api.KeyCMAC), right(2, api.KeySHA256), right(1, api.KeyMD5)}
			checkRing(t, slices.Insert(ring, at, bad), api.ErrShape)
			single := []api.Key{right(2, api.KeyMD5), right(1, api.KeyCMAC), right(3, api.KeySHA256), right(4, api.KeyMD5)}
			checkRing(t, slices.Insert(single, at, bad), api.ErrShape)
		}
	}
	two := []api.Key{right(0, api.KeyMD5), right(0, api.KeyMD5)}
	checkRing(t, two, api.ErrShape)
	many := ringOf(65)
	many[64] = many[0]
	checkRing(t, many, api.ErrShape)
	checkRing(t, many[:64], api.OK)
	checkRing(t, many[1:], api.OK)
	checkRing(t, append(slices.Clone(many[1:64]), many[1]), api.ErrTwice)
}

func TestFindOfIDsThatAreNotThere(t *testing.T) {
	for _, ring := range [][]api.Key{nil, {}, ringOf(1), ringOf(2), ringOf(64)} {
		for _, id := range []uint32{0, 65, 66, 256, 257, 65536, 65537, 1 << 31, 1<<31 + 1, math.MaxUint32} {
			checkNoKey(t, ring, id, api.ErrKey)
		}
		checkNoKey(t, ring, uint32(len(ring)+1), api.ErrKey)
	}
}
