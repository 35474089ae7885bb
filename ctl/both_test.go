package ctl

import (
	"encoding/binary"
	"math/rand"
	"slices"
	"testing"

	"sundial/api"
)

// P10.4: what is put into bytes comes out of them, and back; what is cut is joined again.

// oneOf is one of a list.
func oneOf[T any](r *rand.Rand, list ...T) T { return list[r.Intn(len(list))] }

// near is a number from least to greatest; now and then one that is beside them, if wrong ones are wanted.
func near(r *rand.Rand, least, greatest int, wrong bool) int {
	if wrong && r.Intn(20) == 0 {
		return oneOf(r, least-1, greatest+1)
	}
	return oneOf(r, least, greatest, least+r.Intn(greatest-least+1))
}

func randomBytes(r *rand.Rand, n int) []byte {
	b := make([]byte, n)
	r.Read(b)
	return b
}

// randomFrame is a frame that is right, or now and then wrong, if such are wanted.
func randomFrame(r *rand.Rand, wrong bool) api.Frame {
	f := api.Frame{
		Response: r.Intn(2) == 0, Error: r.Intn(2) == 0, More: r.Intn(2) == 0,
		Data: randomBytes(r, max(near(r, 0, oneOf(r, 4, 468), false), near(r, 0, oneOf(r, 1, 468), wrong))),
	}
	for _, n := range frameNumbers {
		*n.at(&f) = near(r, n.least, n.greatest, wrong)
	}
	return f
}

// A frame is right, just if its bytes are a frame again, and that one.
func TestRightIsWhatComesBack(t *testing.T) {
	r := rand.New(rand.NewSource(101))
	count := map[bool]int{}
	for i := range 30000 {
		f := randomFrame(r, i%2 == 0)
		back, errno := taken(written(f))
		right := errno == api.OK && same(back, f)
		checkFrame(t, f, right)
		count[right]++
	}
	if count[true] < 5000 || count[false] < 2000 {
		fail(t, "right and wrong ones: %v", count)
	}
}

func TestDecodeOfEncode(t *testing.T) {
	r := rand.New(rand.NewSource(102))
	for range 50000 {
		f := randomFrame(r, false)
		b, errno := Encode(f)
		if errno != api.OK {
			t.Fatalf("Encode(%v): %v", f, errno)
		}
		if back, errno := Decode(b); !same(back, f) || errno != api.OK {
			t.Fatalf("Decode of Encode(%v) = %v, %v", f, back, errno)
		}
	}
}

// someBytes are bytes that look like a frame, more or less.
func someBytes(r *rand.Rand) []byte {
	n := oneOf(r, 0, 1, 3, 4, 5, 467, 468, 469, r.Intn(500))
	b := randomBytes(r, 12+n)
	if r.Intn(10) > 0 {
		b[0] = byte(oneOf(r, 0, 0, 0, 0, 0, r.Intn(4))<<6 | oneOf(r, 1, 2, 3, 4, r.Intn(8))<<3 | oneOf(r, 6, 6, 6, 6, 6, r.Intn(8)))
	}
	told := n
	if r.Intn(10) == 0 {
		told = oneOf(r, 0, n-1, n+1, n+4, n^256, r.Intn(65536))
	}
	binary.BigEndian.PutUint16(b[10:], uint16(told))
	behind := (4 - n%4) % 4
	if r.Intn(10) == 0 {
		return append(b, randomBytes(r, oneOf(r, behind, behind, r.Intn(8)))...)
	}
	return append(b, make([]byte, behind)...)
}

func TestEncodeOfDecode(t *testing.T) {
	r := rand.New(rand.NewSource(103))
	count := map[api.Errno]int{}
	for range 100000 {
		b := someBytes(r)
		_, errno := Decode(b)
		count[errno]++
		checkBytes(t, b)
	}
	for _, errno := range []api.Errno{api.OK, api.ErrShort, api.ErrMode, api.ErrVersion, api.ErrShape} {
		if count[errno] < 1000 {
			fail(t, "so often each answer: %v", count)
		}
	}
}

func TestAllBytesAreAnswered(t *testing.T) {
	r := rand.New(rand.NewSource(104))
	for range 100 {
		for n := range 500 {
			b := randomBytes(r, n)
			checkBytes(t, b)
			if n > 0 {
				b[0] = 0x26
				checkBytes(t, b)
			}
		}
	}
}

// A bit that is turned, wherever it is, is to be seen in the frame, or refused.
func TestEveryBitIsToBeSeen(t *testing.T) {
	for _, f := range samples() {
		b := written(f)
		for bit := range 8 * len(b) {
			other := turned(b, bit/8, b[bit/8]^1<<(bit%8))
			checkBytes(t, other)
			if got, errno := Decode(other); errno == api.OK && same(got, f) {
				fail(t, "Decode(%x) is as of %x", other, b)
			}
		}
	}
}

func TestJoinOfCut(t *testing.T) {
	r := rand.New(rand.NewSource(105))
	for range 300 {
		n := oneOf(r, 0, 1, 467, 468, 469, 936, 937, 65535, r.Intn(3000), r.Intn(65536))
		data := randomBytes(r, n)
		list := checkCut(t, randomFrame(r, false), data)
		for range 3 {
			r.Shuffle(len(list), func(i, j int) { list[i], list[j] = list[j], list[i] })
			checkJoined(t, list, data)
		}
	}
}

func TestJoinOfCutInEveryOrder(t *testing.T) {
	for _, n := range []int{0, 1, 468, 469, 936, 937, 1404, 1405, 2000, 2340} {
		data := rising(n, 9)
		list := checkCut(t, full(7), data)
		orders(list, func(list []api.Frame) { checkJoined(t, list, data) })
	}
}

// Pieces are frames: they, too, come out of their bytes, and are joined behind that.
func TestJoinOfPiecesOnTheirWay(t *testing.T) {
	for _, n := range []int{0, 1, 468, 469, 1000, 65535} {
		data := rising(n, 4)
		list := checkCut(t, full(0), data)
		for i, f := range list {
			b, errno := Encode(f)
			if errno != api.OK {
				fail(t, "Encode of the piece %v: %v", f, errno)
			}
			list[i], _ = Decode(b)
		}
		checkJoined(t, list, data)
	}
}

// randomList is pieces of some data, with something wrong of them now and then.
func randomList(r *rand.Rand) []api.Frame {
	first := randomFrame(r, false)
	var list []api.Frame
	at, count := 0, r.Intn(6)
	for i := range count {
		f := first
		f.Offset, f.More, f.Data = at, i < count-1, randomBytes(r, oneOf(r, 1, 2, 3, 468, 1+r.Intn(468)))
		at += len(f.Data)
		list = append(list, f)
	}
	for count > 0 && r.Intn(2) == 0 {
		i := r.Intn(len(list))
		switch r.Intn(8) {
		case 0:
			list = append(list, list[i])
		case 1:
			list[i] = list[len(list)-1]
		case 2:
			list[i].More = !list[i].More
		case 3:
			list[i].Offset += oneOf(r, -1, 1)
		case 4:
			list[i].Data = nil
		case 5:
			list[i].Data = append(list[i].Data, 1)
		case 6:
			*oneOf(r, frameNumbers...).at(&list[i]) += oneOf(r, -1, 1)
		case 7:
			flag := oneOf(r, frameFlags...).at(&list[i])
			*flag = !*flag
		}
	}
	r.Shuffle(len(list), func(i, j int) { list[i], list[j] = list[j], list[i] })
	return list
}

func TestJoinOfRandomLists(t *testing.T) {
	r := rand.New(rand.NewSource(106))
	count := map[api.Errno]int{}
	for range 60000 {
		list := randomList(r)
		_, errno := Join(list)
		count[errno]++
		checkList(t, list)
	}
	for _, errno := range []api.Errno{api.OK, api.ErrShape, api.ErrTwice, api.ErrNone} {
		if count[errno] < 1000 {
			fail(t, "so often each answer: %v", count)
		}
	}
}

// Every list of up to four small pieces.
func TestEveryShortList(t *testing.T) {
	var kinds []api.Frame
	for _, offset := range []int{0, 1, 2} {
		for n := range 3 {
			kinds = append(kinds, piece(offset, n, true), piece(offset, n, false))
		}
	}
	var put func(list []api.Frame)
	put = func(list []api.Frame) {
		checkList(t, list)
		if len(list) == 4 {
			return
		}
		for _, f := range kinds {
			put(append(slices.Clip(list), f))
		}
	}
	put(nil)
}

func FuzzBytes(f *testing.F) {
	for _, x := range samples() {
		f.Add(written(x))
	}
	f.Fuzz(checkBytes)
}
