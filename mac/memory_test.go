package mac

import (
	"bytes"
	"slices"
	"sync"
	"testing"

	"sundial/api"
)

// roomy is b with spare bytes ahead of it and behind it, and all of them.
func roomy(b []byte, spare int) (piece, all []byte) {
	all = slices.Concat(bytes.Repeat([]byte{0xa5}, spare), b, bytes.Repeat([]byte{0x5a}, spare))
	return all[spare : spare+len(b)], all
}

// handed is a ring, a message and a digest, with all the memory that they stand in.
type handed struct {
	ring, allKeys []api.Key
	m, digest     []byte
	lists         [][]byte
}

// handOut makes lists with room behind them, of keys of so many bytes.
func handOut(keys []api.Key, m, digest []byte, spare int) *handed {
	h := &handed{allKeys: make([]api.Key, len(keys)+spare)}
	for i := range h.allKeys {
		h.allKeys[i] = sized(uint32(500+i), api.KeyMD5, 3)
	}
	copy(h.allKeys, keys)
	for i, k := range h.allKeys {
		piece, all := roomy(k.Bytes, spare)
		h.allKeys[i].Bytes = piece
		h.lists = append(h.lists, all)
	}
	h.ring = h.allKeys[:len(keys)]
	piece, all := roomy(m, spare)
	h.m, h.lists = piece, append(h.lists, all)
	piece, all = roomy(digest, spare)
	h.digest, h.lists = piece, append(h.lists, all)
	return h
}

// state is all that h holds, in new memory.
func (h *handed) state() ([]api.Key, [][]byte) {
	keys := slices.Clone(h.allKeys)
	var lists [][]byte
	for i, k := range keys {
		keys[i].Bytes = bytes.Clone(k.Bytes)
	}
	for _, list := range h.lists {
		lists = append(lists, bytes.Clone(list))
	}
	return keys, lists
}

func (h *handed) callAll() {
	Check(h.ring)
	Same(h.m, h.digest)
	Same(h.digest, h.digest)
	for _, k := range h.allKeys {
		Find(h.ring, k.ID)
		Make(k, h.m)
		Verify(h.ring, k.ID, h.m, h.digest)
	}
	Find(h.ring, 0)
}

// P6.5
func TestWhatIsHandedInStays(t *testing.T) {
	rings := [][]api.Key{nil, ringOf(1), ringOf(3), ringOf(64), ringOf(65), {right(3, api.KeyMD5), right(1, api.KeyCMAC), right(3, api.KeySHA256)}}
	for _, n := range []int{0, 1, 15, 16, 17, 63, 64, 65} {
		rings = append(rings, []api.Key{sized(9, api.KeySHA256, n), sized(4, api.KeyMD5, n), sized(7, api.KeyCMAC, n), sized(2, 3, n)})
	}
	for _, ring := range rings {
		for _, n := range []int{0, 1, 16, 48, 63, 64, 65, 200} {
			for _, spare := range []int{0, 1, 20, 70} {
				h := handOut(ring, rising(n, 3), rising(16, n), spare)
				keys, lists := h.state()
				h.callAll()
				if !slices.EqualFunc(h.allKeys, keys, sameKey) || !slices.EqualFunc(h.lists, lists, bytes.Equal) {
					t.Fatalf("the calls with %d keys, %d bytes, %d spare, change them", len(ring), n, spare)
				}
			}
		}
	}
}

// overwrite changes a list, and all that it has room for.
func overwrite(b []byte) {
	b = b[:cap(b)]
	for i := range b {
		b[i] ^= 0xff
	}
}

func TestKeysFoundAreNewMemory(t *testing.T) {
	for _, n := range []int{1, 3, 64} {
		h := handOut(ringOf(n), rising(48, 1), rising(16, 1), 20)
		keys, lists := h.state()
		for i, k := range keys[:n] {
			one, _ := Find(h.ring, k.ID)
			two, _ := Find(h.ring, k.ID)
			overwrite(one.Bytes)
			_ = append(one.Bytes, rising(40, 1)...)
			if !sameKey(two, k) || !slices.EqualFunc(h.allKeys, keys, sameKey) || !slices.EqualFunc(h.lists, lists, bytes.Equal) {
				t.Fatalf("a change of the key %d of %d that was found changes another one", i, n)
			}
			if again, errno := Find(h.ring, k.ID); !sameKey(again, k) || errno != api.OK {
				t.Fatalf("behind a change of the key %d it is %v, %v; want %v", i, again, errno, k)
			}
		}
	}
}

func TestDigestsAreNewMemory(t *testing.T) {
	for _, k := range ringOf(3) {
		for _, n := range messageLengths {
			h := handOut([]api.Key{k}, rising(n, 1), nil, 20)
			keys, lists := h.state()
			one, two := made(t, h.ring[0], h.m), made(t, h.ring[0], h.m)
			other := made(t, h.ring[0], rising(n+1, 2))
			want, wantOther := bytes.Clone(two), bytes.Clone(other)
			overwrite(one)
			_ = append(one, rising(40, 1)...)
			if !bytes.Equal(two, want) || !bytes.Equal(other, wantOther) {
				t.Fatalf("kind %d: a change of the digest of %d bytes changes another one", k.Kind, n)
			}
			if !slices.EqualFunc(h.allKeys, keys, sameKey) || !slices.EqualFunc(h.lists, lists, bytes.Equal) {
				t.Fatalf("kind %d: a change of the digest of %d bytes changes what was handed in", k.Kind, n)
			}
			if again := made(t, h.ring[0], h.m); !bytes.Equal(again, want) {
				t.Fatalf("kind %d: behind a change of the digest of %d bytes it is %x; want %x", k.Kind, n, again, want)
			}
		}
	}
}

func TestAnswersStayWhenWhatWasHandedInChanges(t *testing.T) {
	for at, k := range ringOf(3) {
		ring, m := ringOf(3), rising(48, 1)
		found, _ := Find(ring, k.ID)
		digest := made(t, ring[at], m)
		want := bytes.Clone(digest)
		overwrite(ring[at].Bytes)
		overwrite(m)
		if !sameKey(found, k) || !bytes.Equal(digest, want) {
			t.Errorf("kind %d: the answers change with what was handed in: %v, %x", k.Kind, found, digest)
		}
		checkVerify(t, ring, k.ID, rising(48, 1), want, api.ErrMac)
		checkVerify(t, ringOf(3), k.ID, rising(48, 1), want, api.OK)
		ring[at] = right(99, api.KeyMD5)
		checkVerify(t, ring, k.ID, rising(48, 1), want, api.ErrKey)
	}
}

// One list may be the keys' bytes, the message and the digest.
func TestOneListHandedInTwice(t *testing.T) {
	for _, kind := range kinds {
		for at := range 17 {
			b := rising(40, at)
			was := bytes.Clone(b)
			k := api.Key{ID: 1, Kind: kind, Bytes: b[:16]}
			checkMake(t, k, b[at:at+16])
			checkMake(t, k, b)
			checkVerify(t, []api.Key{k}, 1, b, b[at:at+16], api.ErrMac)
			checkRing(t, []api.Key{k, {ID: 2, Kind: kind, Bytes: b[at : at+16]}}, api.OK)
			if !bytes.Equal(b, was) {
				t.Fatalf("kind %d, %d: left are %x; want %x", kind, at, b, was)
			}
		}
	}
}

func TestAnswersHangOnWhatIsHandedInAlone(t *testing.T) {
	ring := ringOf(64)
	var all sync.WaitGroup
	for worker := range 8 {
		all.Go(func() {
			for i, k := range ring {
				m := rising(64+worker, i)
				checkMake(t, k, m)
				checkVerify(t, ring, k.ID, m, digestOf(t, k, m), api.OK)
			}
			checkRing(t, ring, api.OK)
		})
	}
	all.Wait()
}
