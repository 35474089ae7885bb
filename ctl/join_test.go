package ctl

import (
	"bytes"
	"slices"
	"testing"

	"sundial/api"
)

// P10.3: the data of frames, and which of them aren't joined.

// piece is a frame like full's, with n bytes of data that stand behind so many.
func piece(offset, n int, more bool) api.Frame {
	f := full(n)
	f.Offset, f.More, f.Data = offset, more, rising(n, offset)
	return f
}

// some are the pieces of rising(15, 0), of unlike lengths.
func some() []api.Frame {
	return []api.Frame{piece(0, 4, true), piece(4, 1, true), piece(5, 6, true), piece(11, 3, true), piece(14, 1, false)}
}

func TestJoinOfTheExamples(t *testing.T) {
	data := rising(1000, 3)
	list := mustCut(t, full(0), data)
	slices.Reverse(list)
	checkJoined(t, list, data)
	slices.Reverse(list)
	checkNotJoined(t, list[:2], api.ErrNone)
	checkNotJoined(t, nil, api.ErrNone)
	checkNotJoined(t, []api.Frame{}, api.ErrNone)
}

func TestJoinOfOne(t *testing.T) {
	for _, n := range []int{0, 1, 3, 4, 467, 468} {
		checkJoined(t, []api.Frame{piece(0, n, false)}, rising(n, 0))
		checkNotJoined(t, []api.Frame{piece(0, n, true)}, api.ErrNone)
		for _, at := range []int{1, n, n + 1, 468, 65535} {
			if at > 0 {
				checkNotJoined(t, []api.Frame{piece(at, n, false)}, api.ErrNone)
				checkNotJoined(t, []api.Frame{piece(at, n, true)}, api.ErrNone)
			}
		}
	}
}

func TestJoinOfTwo(t *testing.T) {
	for n := range 8 {
		for at := range 10 {
			for more := range 4 {
				list := []api.Frame{piece(0, n, more&1 == 0), piece(at, 5, more&2 != 0)}
				checkList(t, list)
				slices.Reverse(list)
				checkList(t, list)
				switch {
				case at == 0:
					checkNotJoined(t, list, api.ErrTwice)
				case at == n && more == 0:
					checkJoined(t, list, rising(n+5, 0))
				default:
					checkNotJoined(t, list, api.ErrNone)
				}
			}
		}
	}
}

func TestJoinInEveryOrder(t *testing.T) {
	orders(some(), func(list []api.Frame) { checkJoined(t, list, rising(15, 0)) })
}

func TestJoinOfMany(t *testing.T) {
	for _, n := range []int{1, 2, 7, 468} {
		var list []api.Frame
		for at := 0; at <= 65535; at += n {
			list = append(list, piece(at, n, at+n <= 65535))
		}
		all := len(list) * n
		checkJoined(t, list, rising(all, 0))
		slices.Reverse(list)
		checkJoined(t, list, rising(all, 0))
		checkNotJoined(t, list[1:], api.ErrNone)
		checkNotJoined(t, list[:len(list)-1], api.ErrNone)
		checkNotJoined(t, append(slices.Clone(list), list[len(list)/2]), api.ErrTwice)
	}
}

// What is joined may reach further than what is cut.
func TestJoinBeyondTheGreatestOffset(t *testing.T) {
	list := mustCut(t, full(0), rising(65535, 0))
	front := list[:len(list)-1]
	checkJoined(t, append(slices.Clone(front), piece(65520, 15, true), piece(65535, 468, false)), rising(66003, 0))
	checkJoined(t, append(slices.Clone(front), piece(65520, 468, false)), rising(65988, 0))
	checkJoined(t, append(slices.Clone(front), piece(65520, 15, true), piece(65535, 0, false)), rising(65535, 0))
}

func TestOneMissing(t *testing.T) {
	for i := range some() {
		orders(slices.Delete(some(), i, i+1), func(list []api.Frame) { checkNotJoined(t, list, api.ErrNone) })
	}
	for keep := range 31 {
		var list []api.Frame
		for i, f := range some() {
			if keep>>i&1 == 1 {
				list = append(list, f)
			}
		}
		checkNotJoined(t, list, api.ErrNone)
	}
}

func TestOneTwice(t *testing.T) {
	for i, f := range some() {
		for at := range 6 {
			checkNotJoined(t, slices.Insert(some(), at, f), api.ErrTwice)
			// Whatever the other one's data and More are, and whatever else is missing.
			other := piece(f.Offset, 2, !f.More)
			checkNotJoined(t, slices.Insert(some(), at, other), api.ErrTwice)
			checkNotJoined(t, slices.Insert(some(), at, piece(f.Offset, 0, f.More)), api.ErrTwice)
		}
		checkNotJoined(t, []api.Frame{f, f}, api.ErrTwice)
		checkNotJoined(t, []api.Frame{f, f, f}, api.ErrTwice)
		checkNotJoined(t, append(some()[i:], f), api.ErrTwice)
	}
	checkNotJoined(t, []api.Frame{piece(0, 4, true), piece(9, 4, true), piece(9, 4, false)}, api.ErrTwice)
	checkNotJoined(t, []api.Frame{piece(1, 4, true), piece(1, 0, false)}, api.ErrTwice)
	checkNotJoined(t, []api.Frame{piece(65535, 0, true), piece(3, 1, true), piece(65535, 1, true)}, api.ErrTwice)
}

// A piece without data ends where it begins: behind all others it has a place, ahead of one it has none.
func TestPiecesWithoutData(t *testing.T) {
	for _, list := range [][]api.Frame{
		{piece(0, 0, true), piece(0, 4, false)},
		{piece(0, 4, true), piece(4, 0, true), piece(4, 1, false)},
		{piece(0, 4, true), piece(4, 1, true), piece(4, 0, false)},
		{piece(0, 0, true), piece(0, 0, false)},
	} {
		orders(list, func(list []api.Frame) { checkNotJoined(t, list, api.ErrTwice) })
	}
	orders([]api.Frame{piece(0, 4, true), piece(4, 0, false)}, func(list []api.Frame) { checkJoined(t, list, rising(4, 0)) })
	orders([]api.Frame{piece(0, 4, true), piece(4, 0, true)}, func(list []api.Frame) { checkNotJoined(t, list, api.ErrNone) })
	orders([]api.Frame{piece(0, 0, true), piece(1, 3, false)}, func(list []api.Frame) { checkNotJoined(t, list, api.ErrNone) })
	checkJoined(t, []api.Frame{piece(0, 0, false)}, nil)
	checkNotJoined(t, []api.Frame{piece(0, 0, true)}, api.ErrNone)
}

func TestGapsAndOverlaps(t *testing.T) {
	for i := range some() {
		for _, move := range []int{-11, -1, 1, 2, 400} {
			list := some()
			list[i].Offset += move
			orders(list, func(list []api.Frame) { checkList(t, list) })

			list = some()
			list[i].Data = rising(max(len(list[i].Data)+move, 0), list[i].Offset)
			want := api.ErrNone
			if len(list[i].Data) > 468 {
				want = api.ErrShape
			}
			if i < len(list)-1 {
				checkNotJoined(t, list, want)
			} else {
				checkList(t, list)
			}
		}
	}
	checkNotJoined(t, []api.Frame{piece(0, 4, true), piece(3, 4, false)}, api.ErrNone)
	checkNotJoined(t, []api.Frame{piece(0, 4, true), piece(5, 4, false)}, api.ErrNone)
	checkNotJoined(t, []api.Frame{piece(0, 10, true), piece(2, 2, true), piece(10, 1, false)}, api.ErrNone)
}

func TestMore(t *testing.T) {
	for ways := range 32 {
		list := some()
		for i := range list {
			list[i].More = ways>>i&1 == 1
		}
		if ways == 15 {
			checkJoined(t, list, rising(15, 0))
		} else {
			checkNotJoined(t, list, api.ErrNone)
		}
		slices.Reverse(list)
		checkList(t, list)
	}
}

// Pieces that differ in another thing than Data, Offset and More.
func TestPiecesThatDiffer(t *testing.T) {
	for i := range some() {
		for _, n := range frameNumbers {
			for _, move := range []int{-1, 1} {
				list := some()
				*n.at(&list[i]) += move
				want := api.ErrShape
				if n.name == "Offset" && list[i].Offset >= 0 {
					_, want = together(list)
				}
				orders(list, func(list []api.Frame) { checkNotJoined(t, list, want) })
			}
		}
		for _, flag := range frameFlags {
			list := some()
			*flag.at(&list[i]) = !*flag.at(&list[i])
			want := api.ErrShape
			if flag.name == "More" {
				want = api.ErrNone
			}
			orders(list, func(list []api.Frame) { checkNotJoined(t, list, want) })
		}
	}
}

// Pieces of every kind are joined, as long as they are of one kind.
func TestPiecesOfEveryKind(t *testing.T) {
	for _, n := range frameNumbers[:5] {
		for x := n.least; x <= n.greatest; x += (n.greatest-n.least)/31 + 1 {
			list := some()
			for i := range list {
				*n.at(&list[i]) = x
			}
			checkJoined(t, list, rising(15, 0))
		}
	}
	for ways := range 4 {
		list := some()
		for i := range list {
			list[i].Response, list[i].Error = ways&1 == 1, ways&2 == 2
		}
		checkJoined(t, list, rising(15, 0))
	}
}

func TestWrongFramesAreNotJoined(t *testing.T) {
	for _, wrong := range wrongFrames() {
		checkNotJoined(t, []api.Frame{wrong}, api.ErrShape)
		checkNotJoined(t, []api.Frame{wrong, wrong}, api.ErrShape)
		for at := range 6 {
			checkNotJoined(t, slices.Insert(some(), at, wrong), api.ErrShape)
			checkNotJoined(t, slices.Insert(some()[1:], at/2, wrong), api.ErrShape)
		}
	}
	// All wrong in the same way.
	for _, n := range frameNumbers[:5] {
		for _, x := range []int{n.least - 1, n.greatest + 1} {
			list := some()
			for i := range list {
				*n.at(&list[i]) = x
			}
			checkNotJoined(t, list, api.ErrShape)
		}
	}
	for _, x := range []int{-1, 65536, 65535 + 468} {
		list := append(some(), piece(x, 1, false))
		list[4].More = true
		checkNotJoined(t, list, api.ErrShape)
	}
	checkNotJoined(t, []api.Frame{piece(0, 469, false)}, api.ErrShape)
	checkNotJoined(t, []api.Frame{piece(0, 469, true), piece(469, 1, false)}, api.ErrShape)
}

// Of several faults the first is told: ErrShape, ErrTwice, ErrNone.
func TestSeveralFaultsOfAList(t *testing.T) {
	other := piece(4, 1, true)
	other.Status++
	wrong := piece(0, 4, true)
	wrong.Version = 0
	for _, bad := range []api.Frame{other, wrong} {
		orders([]api.Frame{piece(0, 4, true), bad, piece(0, 4, true)}, func(list []api.Frame) { checkNotJoined(t, list, api.ErrShape) })
		orders([]api.Frame{piece(7, 4, true), bad}, func(list []api.Frame) { checkNotJoined(t, list, api.ErrShape) })
		orders([]api.Frame{piece(7, 4, true), bad, piece(7, 1, true), piece(9, 1, false)}, func(list []api.Frame) { checkNotJoined(t, list, api.ErrShape) })
	}
	orders([]api.Frame{piece(7, 4, true), piece(9, 1, false), piece(9, 1, true), piece(20, 1, true)}, func(list []api.Frame) { checkNotJoined(t, list, api.ErrTwice) })
}

func TestJoinedBytesAreThePieces(t *testing.T) {
	a, b, c := piece(0, 0, true), piece(3, 0, true), piece(4, 0, false)
	a.Data, b.Data, c.Data = []byte{0, 255, 0}, []byte{7}, bytes.Repeat([]byte{0}, 468)
	orders([]api.Frame{a, b, c}, func(list []api.Frame) { checkJoined(t, list, append([]byte{0, 255, 0, 7}, make([]byte, 468)...)) })
}
