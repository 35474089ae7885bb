package hash

import (
	"bytes"
	"strings"
	"sync"
	"testing"
)

// digestCalls are the calls that answer lists.
var digestCalls = []struct {
	name string
	of   func([]byte) []byte
}{{"MD5", MD5}, {"SHA256", SHA256}}

// P4.3
func TestWhatIsHandedInStays(t *testing.T) {
	for _, n := range edgeLengths {
		for _, spare := range []int{0, 1, 8, 9, 64, 200} {
			all := bytes.Repeat([]byte{0xa5}, 10+n+spare)
			was := bytes.Clone(all)
			b := all[10 : 10+n]
			for _, call := range digestCalls {
				if call.of(b); !bytes.Equal(all, was) {
					t.Fatalf("%s of %d bytes, %d spare, changes them to %x", call.name, n, spare, all)
				}
			}
			if Hex(b); !bytes.Equal(all, was) {
				t.Fatalf("Hex of %d bytes, %d spare, changes them to %x", n, spare, all)
			}
		}
	}
}

// overwrite changes a list, and all that it has room for.
func overwrite(b []byte) {
	b = b[:cap(b)]
	for i := range b {
		b[i] ^= 0xff
	}
}

func TestAnswersAreNewMemory(t *testing.T) {
	for _, call := range digestCalls {
		for _, n := range edgeLengths {
			b := rising(n, 5)
			was := bytes.Clone(b)
			one, two, other := call.of(b), call.of(b), call.of(rising(n, 6))
			want, wantOther := bytes.Clone(one), bytes.Clone(other)
			overwrite(one)
			if !bytes.Equal(two, want) || !bytes.Equal(other, wantOther) || !bytes.Equal(b, was) {
				t.Fatalf("a change of %s of %d bytes changes %x, %x or %x", call.name, n, two, other, b)
			}
			if again := call.of(b); !bytes.Equal(again, want) {
				t.Fatalf("behind a change of %s of %d bytes it is %x; want %x", call.name, n, again, want)
			}
			_ = append(two[:0], make([]byte, cap(two))...)
			if again := call.of(b); !bytes.Equal(again, want) || !bytes.Equal(other, wantOther) {
				t.Fatalf("behind an append to %s of %d bytes it is %x; want %x", call.name, n, again, want)
			}
		}
	}
}

func TestAnswersStayWhenWhatWasHandedInChanges(t *testing.T) {
	for _, n := range edgeLengths {
		b := rising(n, 9)
		text := Hex(b)
		wantText := strings.Clone(text)
		for _, call := range digestCalls {
			digest := call.of(b)
			want := bytes.Clone(digest)
			overwrite(b)
			if !bytes.Equal(digest, want) {
				t.Errorf("%s of %d bytes changes with them", call.name, n)
			}
		}
		if text != wantText {
			t.Errorf("Hex of %d bytes changes with them", n)
		}
	}
}

// A digest's digest: an answer may be handed in, and stays.
func TestAnAnswerHandedInStays(t *testing.T) {
	for _, call := range digestCalls {
		digest := call.of([]byte("abc"))
		want := bytes.Clone(digest)
		for _, next := range digestCalls {
			next.of(digest)
		}
		if Hex(digest); !bytes.Equal(digest, want) {
			t.Errorf("%s of abc, handed in, became %x; want %x", call.name, digest, want)
		}
	}
}

func TestAnswersHangOnTheBytesAlone(t *testing.T) {
	var all sync.WaitGroup
	for worker := range 8 {
		all.Go(func() {
			for n := range 300 {
				checkDigests(t, rising(n, worker))
				checkHex(t, rising(n, worker))
			}
		})
	}
	all.Wait()
}
