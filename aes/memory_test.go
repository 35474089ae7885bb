package aes

import (
	"bytes"
	"sync"
	"testing"

	"sundial/api"
)

// calls are the layer's calls, of a key and of what else is handed in, and how long that may be.
var calls = []struct {
	name string
	of   func(key, b []byte) ([]byte, api.Errno)
	long []int
}{{"Encipher", Encipher, []int{16}}, {"CMAC", CMAC, edgeLengths}}

// overwrite changes a list, and all that it has room for.
func overwrite(b []byte) {
	b = b[:cap(b)]
	for i := range b {
		b[i] ^= 0xff
	}
}

// P5.3
func TestWhatIsHandedInStays(t *testing.T) {
	for _, call := range calls {
		for _, n := range append([]int{0, 15, 17}, call.long...) {
			for _, keySize := range []int{0, 15, 16, 17} {
				for _, spare := range []int{0, 1, 15, 16, 40} {
					key, b := bytes.Repeat([]byte{0xa5}, 7+keySize+spare), bytes.Repeat([]byte{0x5a}, 9+n+spare)
					wasKey, was := bytes.Clone(key), bytes.Clone(b)
					if call.of(key[7:7+keySize], b[9:9+n]); !bytes.Equal(key, wasKey) || !bytes.Equal(b, was) {
						t.Fatalf("%s with a key of %d bytes, of %d, %d spare, changes them to %x, %x", call.name, keySize, n, spare, key, b)
					}
				}
			}
		}
	}
}

func TestAnswersAreNewMemory(t *testing.T) {
	for _, call := range calls {
		for _, n := range call.long {
			key, b := rising(16, 1), rising(n, 5)
			wasKey, was := bytes.Clone(key), bytes.Clone(b)
			one, _ := call.of(key, b)
			two, _ := call.of(key, b)
			other, _ := call.of(rising(16, 2), b)
			want, wantOther := bytes.Clone(two), bytes.Clone(other)
			overwrite(one)
			_ = append(one[:0], make([]byte, cap(one))...)
			if !bytes.Equal(two, want) || !bytes.Equal(other, wantOther) || !bytes.Equal(key, wasKey) || !bytes.Equal(b, was) {
				t.Fatalf("a change of %s of %d bytes changes %x, %x, %x or %x", call.name, n, two, other, key, b)
			}
			if again, _ := call.of(key, b); !bytes.Equal(again, want) {
				t.Fatalf("behind a change of %s of %d bytes it is %x; want %x", call.name, n, again, want)
			}
		}
	}
}

func TestAnswersStayWhenWhatWasHandedInChanges(t *testing.T) {
	for _, call := range calls {
		for _, n := range call.long {
			key, b := rising(16, 1), rising(n, 9)
			got, _ := call.of(key, b)
			want := bytes.Clone(got)
			overwrite(key)
			overwrite(b)
			if !bytes.Equal(got, want) {
				t.Errorf("%s of %d bytes changes with them", call.name, n)
			}
			if other, _ := call.of(key, b); !bytes.Equal(got, want) || bytes.Equal(other, want) {
				t.Errorf("%s of %d other bytes is %x, the one ahead %x", call.name, n, other, got)
			}
		}
	}
}

// One list may be key and block, or message, and may overlap the other one.
func TestOneListHandedInTwice(t *testing.T) {
	for _, call := range calls {
		for at := range 17 {
			b := rising(32, at)
			was := bytes.Clone(b)
			got, errno := call.of(b[:16], b[at:at+16])
			want, _ := call.of(bytes.Clone(b[:16]), bytes.Clone(b[at:at+16]))
			if !bytes.Equal(got, want) || errno != api.OK || !bytes.Equal(b, was) {
				t.Errorf("%s of bytes %d behind the key = %x, %v; want %x, E0; left are %x", call.name, at, got, errno, want, b)
			}
		}
	}
}

func TestAnswersHangOnTheBytesAlone(t *testing.T) {
	var all sync.WaitGroup
	for worker := range 8 {
		all.Go(func() {
			for n := range 300 {
				checkEncipher(t, rising(16, worker), rising(16, n))
				checkCMAC(t, rising(16, worker), rising(n, worker))
			}
		})
	}
	all.Wait()
}
