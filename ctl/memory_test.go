package ctl

import (
	"bytes"
	"slices"
	"sync"
	"testing"

	"sundial/api"
)

// P10.5: what is handed in stays, answers are new memory, and nothing is kept.

// roomy is b with spare bytes ahead of it and behind it, and all of them.
func roomy(b []byte, spare int) (piece, all []byte) {
	all = slices.Concat(bytes.Repeat([]byte{0xa5}, spare), b, bytes.Repeat([]byte{0x5a}, spare))
	return all[spare : spare+len(b)], all
}

// handed is frames, with all the memory that they stand in.
type handed struct {
	list, all []api.Frame
	lists     [][]byte
}

// handOut is list with room ahead of and behind it and the frames' data.
func handOut(list []api.Frame, spare int) *handed {
	h := &handed{all: make([]api.Frame, spare+len(list)+spare)}
	for i := range h.all {
		h.all[i] = piece(i, 3, true)
	}
	h.list = h.all[spare : spare+len(list)]
	copy(h.list, list)
	for i, f := range h.all {
		data, all := roomy(f.Data, spare)
		h.all[i].Data = data
		h.lists = append(h.lists, all)
	}
	return h
}

// state is all that h holds, in new memory.
func (h *handed) state() ([]api.Frame, [][]byte) {
	frames := slices.Clone(h.all)
	for i, f := range frames {
		frames[i].Data = bytes.Clone(f.Data)
	}
	var lists [][]byte
	for _, list := range h.lists {
		lists = append(lists, bytes.Clone(list))
	}
	return frames, lists
}

func (h *handed) is(frames []api.Frame, lists [][]byte) bool {
	return slices.EqualFunc(h.all, frames, same) && slices.EqualFunc(h.lists, lists, bytes.Equal)
}

// overwrite changes a list, and all that it has room for.
func overwrite(b []byte) {
	b = b[:cap(b)]
	for i := range b {
		b[i] ^= 0xff
	}
}

// overwriteFrames changes a list of frames, their data, and all that it has room for.
func overwriteFrames(list []api.Frame) {
	list = list[:cap(list)]
	for i := range list {
		overwrite(list[i].Data)
		list[i] = api.Frame{Version: 9, Offset: 9, Data: []byte{9}}
	}
}

// listSamples are lists that are joined, and such as aren't.
func listSamples() [][]api.Frame {
	list := some()
	order := []api.Frame{list[3], list[0], list[4], list[2], list[1]}
	cut, _ := Cut(full(2), rising(1000, 0))
	slices.Reverse(cut)
	return [][]api.Frame{
		list, order, cut, nil, {piece(0, 9, false)}, {piece(0, 0, false)},
		order[1:], order[:4], append(slices.Clone(order), order[2]), append(slices.Clone(order), api.Frame{}), append(slices.Clone(order), piece(3, 0, true)),
		{piece(5, 2, false), piece(0, 5, true)}, {piece(9, 2, true), piece(9, 2, false), piece(0, 3, true)},
	}
}

func TestFramesHandedInStay(t *testing.T) {
	for _, f := range append(samples(), wrongFrames()...) {
		for _, spare := range []int{0, 1, 4, 30, 2000} {
			h := handOut([]api.Frame{f}, spare)
			frames, lists := h.state()
			Encode(h.list[0])
			for _, n := range []int{0, 1, 468, 469, 65536} {
				data, all := roomy(rising(n, 3), spare)
				was := bytes.Clone(all)
				Cut(h.list[0], data)
				if !bytes.Equal(all, was) {
					t.Fatalf("with %d spare Cut changes %d bytes", spare, n)
				}
			}
			if !h.is(frames, lists) {
				t.Fatalf("with %d spare the calls change %v", spare, brief(f))
			}
		}
	}
}

func TestListsHandedInStay(t *testing.T) {
	for _, list := range listSamples() {
		for _, spare := range []int{0, 1, 4, 30} {
			h := handOut(list, spare)
			frames, lists := h.state()
			Join(h.list)
			if !h.is(frames, lists) {
				t.Fatalf("with %d spare Join changes %v", spare, brief(list))
			}
		}
	}
	orders(some(), func(list []api.Frame) {
		h := handOut(list, 2)
		frames, lists := h.state()
		Join(h.list)
		if !h.is(frames, lists) {
			t.Fatalf("Join changes %v", brief(list))
		}
	})
}

func TestBytesHandedInStay(t *testing.T) {
	for _, f := range samples() {
		b := written(f)
		for _, n := range []int{0, 1, 11, 12, len(b) - 4, len(b) - 1, len(b)} {
			for _, spare := range []int{0, 1, 4, 30, 500} {
				piece, all := roomy(b[:n], spare)
				was := bytes.Clone(all)
				Decode(piece)
				if !bytes.Equal(all, was) {
					t.Fatalf("with %d spare Decode changes %x", spare, b[:n])
				}
			}
		}
	}
}

func TestEncodeAnswersNewMemory(t *testing.T) {
	for _, f := range samples() {
		for _, spare := range []int{0, 30} {
			h := handOut([]api.Frame{f}, spare)
			frames, lists := h.state()
			one, _ := Encode(h.list[0])
			two, _ := Encode(h.list[0])
			overwrite(one)
			if !bytes.Equal(two, written(f)) || !h.is(frames, lists) {
				fail(t, "a change of the bytes of %v changes another list", f)
			}
			overwriteFrames(h.all)
			if !bytes.Equal(two, written(f)) {
				fail(t, "the bytes of %v change with what was handed in", f)
			}
			checkRight(t, f)
		}
	}
}

func TestDecodeAnswersNewMemory(t *testing.T) {
	for _, f := range samples() {
		for _, spare := range []int{0, 30} {
			b, all := roomy(written(f), spare)
			was := bytes.Clone(all)
			one, _ := Decode(b)
			two, _ := Decode(b)
			overwrite(one.Data)
			if !same(two, f) || !bytes.Equal(all, was) {
				fail(t, "a change of the frame of %x changes another list", b)
			}
			overwrite(all)
			if !same(two, f) {
				fail(t, "the frame %v changes with what was handed in", f)
			}
			checkDecoded(t, written(f), f)
		}
	}
}

func TestCutAnswersNewMemory(t *testing.T) {
	for _, f := range samples() {
		for _, n := range []int{0, 1, 467, 468, 469, 936, 1000, 65535} {
			h := handOut([]api.Frame{f}, 30)
			frames, lists := h.state()
			data, all := roomy(rising(n, 5), 30)
			was := bytes.Clone(all)
			one, _ := Cut(h.list[0], data)
			two, _ := Cut(h.list[0], data)
			three := checkCut(t, f, rising(n, 5))
			overwriteFrames(one)
			if !slices.EqualFunc(two, three, same) || !bytes.Equal(all, was) || !h.is(frames, lists) {
				fail(t, "a change of the pieces of %d bytes changes another list", n)
			}
			overwrite(all)
			overwriteFrames(h.all)
			if !slices.EqualFunc(two, three, same) {
				fail(t, "the pieces of %d bytes change with what was handed in", n)
			}
		}
	}
}

// No piece has room in another one.
func TestPiecesShareNoMemory(t *testing.T) {
	for _, n := range []int{1, 468, 469, 936, 1000, 2340} {
		for i := range (n + 467) / 468 {
			list := mustCut(t, full(3), rising(n, 5))
			want := mustCut(t, full(3), rising(n, 5))
			overwrite(list[i].Data)
			list[i], want[i] = api.Frame{}, api.Frame{}
			if !slices.EqualFunc(list, want, same) {
				fail(t, "of %d bytes a change of the piece %d changes another one", n, i)
			}
		}
	}
}

func TestJoinAnswersNewMemory(t *testing.T) {
	for _, list := range listSamples() {
		want, _ := together(list)
		for _, spare := range []int{0, 30, 1000} {
			h := handOut(list, spare)
			frames, lists := h.state()
			one, _ := Join(h.list)
			two, _ := Join(h.list)
			overwrite(one)
			if !bytes.Equal(two, want) || !h.is(frames, lists) {
				fail(t, "a change of the data of %v changes another list", brief(list))
			}
			overwriteFrames(h.all)
			for _, b := range h.lists {
				overwrite(b)
			}
			if !bytes.Equal(two, want) {
				fail(t, "the data of %v changes with what was handed in", brief(list))
			}
			checkList(t, list)
		}
	}
}

// One list may be the data of all frames, and what is cut the data of the frame that it is cut by.
func TestOneListHandedInTwice(t *testing.T) {
	b := rising(468, 1)
	f := full(0)
	f.Data = b
	checkCut(t, f, b)
	list := []api.Frame{f, f, f}
	list[0].Offset, list[0].Data = 10, b[:20]
	list[1].Offset, list[1].Data = 0, b[5:15]
	list[2].Offset, list[2].Data, list[2].More = 30, b[10:], false
	checkJoined(t, list, slices.Concat(b[5:15], b[:20], b[10:]))
	if !bytes.Equal(b, rising(468, 1)) {
		fail(t, "left is %x", b)
	}
}

func TestAnswersHangOnWhatIsHandedInAlone(t *testing.T) {
	frames, lists := samples(), listSamples()
	var all sync.WaitGroup
	for range 8 {
		all.Go(func() {
			for _, f := range frames {
				checkRight(t, f)
				checkRefused(t, written(f)[:8], api.ErrShort)
				checkCut(t, f, rising(1000, 1))
			}
			for _, list := range lists {
				checkList(t, list)
			}
		})
	}
	all.Wait()
}
