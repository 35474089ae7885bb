package ctl

import (
	"bytes"
	"slices"
	"testing"

	"sundial/api"
)

// P10.2: the pieces of data, and what isn't cut.

func TestCutOfTheExample(t *testing.T) {
	f := api.Frame{Version: 4, Op: 2, Sequence: 7}
	data := rising(1000, 3)
	want := []api.Frame{f, f, f}
	want[0].Data, want[0].More = data[:468], true
	want[1].Data, want[1].More, want[1].Offset = data[468:936], true, 468
	want[2].Data, want[2].Offset = data[936:], 936
	if list, errno := Cut(f, data); !slices.EqualFunc(list, want, same) || errno != api.OK {
		fail(t, "Cut = %v, %v; want %v, E0", list, errno, want)
	}
}

func TestCutOfDataOfEveryLength(t *testing.T) {
	lengths := []int{65519, 65520, 65521, 65534, 65535}
	for n := range 1500 {
		lengths = append(lengths, n)
	}
	for n := 1872; n < 65535; n += 468 {
		lengths = append(lengths, n-1, n, n+1)
	}
	for _, n := range lengths {
		list := checkCut(t, full(5), rising(n, n))
		if want := max((n+467)/468, 1); len(list) != want {
			fail(t, "Cut of %d bytes: %d pieces; want %d", n, len(list), want)
		}
	}
	list := mustCut(t, full(5), rising(65535, 5))
	if last := list[len(list)-1]; last.Offset != 65520 || len(last.Data) != 15 || last.More {
		fail(t, "the last of the pieces of 65535 bytes is %v", last)
	}
}

func TestPiecesOfFewBytes(t *testing.T) {
	for _, data := range [][]byte{nil, {}, {0}, rising(467, 1), rising(468, 1)} {
		f := full(9)
		want := f
		want.Offset, want.More, want.Data = 0, false, data
		if list, errno := Cut(f, data); !slices.EqualFunc(list, []api.Frame{want}, same) || errno != api.OK {
			fail(t, "Cut of %x = %v, %v; want %v alone, E0", data, list, errno, want)
		}
	}
}

// What a frame says of Data, Offset and More is nothing to its pieces; all else is.
func TestPiecesAreLikeTheFrame(t *testing.T) {
	for _, f := range samples() {
		for ways := range 8 {
			for i, flag := range frameFlags {
				*flag.at(&f) = ways>>i&1 == 1
			}
			for _, f.Offset = range []int{0, 468, 65535} {
				for _, n := range []int{0, 1, 468, 469, 936, 937} {
					checkCut(t, f, rising(n, 2))
				}
			}
		}
	}
	for _, n := range frameNumbers {
		f := full(0)
		for _, *n.at(&f) = range []int{n.least, n.greatest} {
			checkCut(t, f, rising(500, 1))
		}
	}
}

func TestTooLongToBeCut(t *testing.T) {
	for _, n := range []int{65536, 65537, 65988, 65989, 1 << 20} {
		for _, f := range samples() {
			checkNotCut(t, f, make([]byte, n), api.ErrLong)
		}
	}
}

// A wrong frame isn't cut by, even where a piece would be right, and that is told ahead of data that is too long.
func TestWrongFramesAreNotCutBy(t *testing.T) {
	for _, f := range wrongFrames() {
		for _, n := range []int{0, 1, 468, 469, 65535, 65536, 1 << 20} {
			checkNotCut(t, f, make([]byte, n), api.ErrShape)
		}
	}
}

func TestDataOfNoughtsIsCut(t *testing.T) {
	for _, n := range []int{1, 468, 469, 65535} {
		checkCut(t, api.Frame{Version: 1}, make([]byte, n))
		checkCut(t, api.Frame{Version: 4}, bytes.Repeat([]byte{255}, n))
	}
}
