package ctl

import (
	"bytes"
	"encoding/binary"
	"fmt"
	"slices"
	"testing"

	"sundial/api"
)

// rising is n bytes, each one more than the one ahead of it; 251 is prime, so that no two stretches are alike.
func rising(n, first int) []byte {
	b := make([]byte, n)
	for i := range b {
		b[i] = byte((first + i) % 251)
	}
	return b
}

// full is a frame all bytes of which ahead of its n bytes of data are different ones, and none is 0.
func full(n int) api.Frame {
	return api.Frame{
		Version: 3, Response: true, More: true, Op: 0x15,
		Sequence: 0x8182, Status: 0x9394, Assoc: 0xa5a6, Offset: 0xb7b8, Data: rising(n, 1),
	}
}

// samples are right frames.
func samples() []api.Frame {
	list := []api.Frame{
		{Version: 1},
		{Version: 4, Response: true, Op: 2, Sequence: 258, Data: []byte("abc")},
		{Version: 4, Response: true, Error: true, More: true, Op: 31, Sequence: 65535, Status: 65535, Assoc: 65535, Offset: 65535, Data: bytes.Repeat([]byte{255}, 468)},
		{Version: 2, Error: true, Data: make([]byte, 5)},
	}
	for _, n := range []int{0, 1, 2, 3, 4, 5, 467, 468} {
		list = append(list, full(n))
	}
	return list
}

// frameNumbers are the numbers of a frame, and the least and the greatest that is right.
var frameNumbers = []struct {
	name            string
	least, greatest int
	at              func(f *api.Frame) *int
}{
	{"Version", 1, 4, func(f *api.Frame) *int { return &f.Version }},
	{"Op", 0, 31, func(f *api.Frame) *int { return &f.Op }},
	{"Sequence", 0, 65535, func(f *api.Frame) *int { return &f.Sequence }},
	{"Status", 0, 65535, func(f *api.Frame) *int { return &f.Status }},
	{"Assoc", 0, 65535, func(f *api.Frame) *int { return &f.Assoc }},
	{"Offset", 0, 65535, func(f *api.Frame) *int { return &f.Offset }},
}

var frameFlags = []struct {
	name string
	bit  byte
	at   func(f *api.Frame) *bool
}{
	{"Response", 0x80, func(f *api.Frame) *bool { return &f.Response }},
	{"Error", 0x40, func(f *api.Frame) *bool { return &f.Error }},
	{"More", 0x20, func(f *api.Frame) *bool { return &f.More }},
}

// wrongFrames are full's frame with one of its things beside what is right.
func wrongFrames() []api.Frame {
	list := []api.Frame{{}, full(469), full(470), full(472), full(936), full(65536)}
	for _, n := range frameNumbers {
		for _, x := range []int{n.least - 1, n.greatest + 1} {
			f := full(5)
			*n.at(&f) = x
			list = append(list, f)
		}
	}
	return list
}

func same(a, b api.Frame) bool {
	return sameHead(a, b) && a.Offset == b.Offset && a.More == b.More && bytes.Equal(a.Data, b.Data)
}

// head is what the pieces of some data have in common.
type head struct {
	Version, Op, Sequence, Status, Assoc int
	Response, Error                      bool
}

func headOf(f api.Frame) head {
	return head{
		Version: f.Version, Op: f.Op, Sequence: f.Sequence, Status: f.Status, Assoc: f.Assoc,
		Response: f.Response, Error: f.Error,
	}
}

func sameHead(a, b api.Frame) bool { return headOf(a) == headOf(b) }

// laid is what stands ahead of a frame's data as the chapter lays it.
type laid struct {
	First, Second                             uint8
	Sequence, Status, Assoc, Offset, DataSize uint16
}

// written is f's bytes by other means, of wrong frames, too: what has no room in its bytes loses its upper ones.
func written(f api.Frame) []byte {
	var b bytes.Buffer
	second := f.Op
	for _, flag := range frameFlags {
		if *flag.at(&f) {
			second += int(flag.bit)
		}
	}
	binary.Write(&b, binary.BigEndian, laid{
		First: uint8(8*f.Version + 6), Second: uint8(second),
		Sequence: uint16(f.Sequence), Status: uint16(f.Status), Assoc: uint16(f.Assoc), Offset: uint16(f.Offset), DataSize: uint16(len(f.Data)),
	})
	b.Write(f.Data)
	b.Write(make([]byte, (4-len(f.Data)%4)%4))
	return b.Bytes()
}

// taken is what Decode should answer of b, by other means.
func taken(b []byte) (api.Frame, api.Errno) {
	if len(b) < 12 || len(b)&3 != 0 {
		return api.Frame{}, api.ErrShort
	}
	var l laid
	binary.Read(bytes.NewReader(b), binary.BigEndian, &l)
	version, size := int(l.First)/8%8, int(l.DataSize)
	switch {
	case l.First%8 != 6:
		return api.Frame{}, api.ErrMode
	case version == 0, version > 4:
		return api.Frame{}, api.ErrVersion
	case l.First >= 64, size > 468, size > len(b)-12, size+4 <= len(b)-12:
		return api.Frame{}, api.ErrShape
	case len(bytes.Trim(b[12+size:], "\x00")) > 0:
		return api.Frame{}, api.ErrShape
	}
	return api.Frame{
		Version: version, Response: l.Second >= 128, Error: l.Second/64%2 == 1, More: l.Second/32%2 == 1, Op: int(l.Second) % 32,
		Sequence: int(l.Sequence), Status: int(l.Status), Assoc: int(l.Assoc), Offset: int(l.Offset), Data: bytes.Clone(b[12 : 12+size]),
	}, api.OK
}

// together is what Join should answer of list, by other means.
func together(list []api.Frame) ([]byte, api.Errno) {
	heads := map[head]int{}
	at := map[int]api.Frame{}
	for _, f := range list {
		if back, errno := taken(written(f)); errno != api.OK || !same(back, f) {
			return nil, api.ErrShape
		}
		heads[headOf(f)]++
		at[f.Offset] = f
	}
	if len(heads) > 1 {
		return nil, api.ErrShape
	}
	if len(at) < len(list) {
		return nil, api.ErrTwice
	}
	var data []byte
	for {
		f, ok := at[len(data)]
		if !ok {
			return nil, api.ErrNone
		}
		delete(at, f.Offset)
		data = append(data, f.Data...)
		if f.More == (len(at) == 0) {
			return nil, api.ErrNone
		}
		if !f.More {
			return data, api.OK
		}
	}
}

// brief is the beginning of what x looks like: lists of frames may be long.
func brief(x any) string {
	if b, ok := x.([]byte); ok {
		x = fmt.Sprintf("%x", b)
	}
	return fmt.Sprintf("%.600s", fmt.Sprint(x))
}

// fail tells of a test's first fault alone: where one thing is wrong, thousands of calls are.
func fail(t *testing.T, format string, args ...any) {
	t.Helper()
	if !t.Failed() {
		t.Errorf(format, args...)
	}
}

// checkRight holds every call against a frame that is right, there and back.
func checkRight(t *testing.T, f api.Frame) {
	t.Helper()
	want := written(f)
	if b, errno := Encode(f); !bytes.Equal(b, want) || errno != api.OK {
		fail(t, "Encode(%v) = %v, %v; want %v, E0", brief(f), brief(b), errno, brief(want))
	}
	checkDecoded(t, want, f)
}

func checkWrong(t *testing.T, f api.Frame) {
	t.Helper()
	if b, errno := Encode(f); len(b) > 0 || errno != api.ErrShape {
		fail(t, "Encode(%v) = %v, %v; want none, E3", brief(f), brief(b), errno)
	}
	for _, n := range []int{0, 1, 469, 65535, 65536} {
		checkNotCut(t, f, make([]byte, n), api.ErrShape)
	}
	checkNotJoined(t, []api.Frame{f}, api.ErrShape)
	checkNotJoined(t, []api.Frame{f, f}, api.ErrShape)
}

// checkFrame takes f for right or wrong.
func checkFrame(t *testing.T, f api.Frame, right bool) {
	t.Helper()
	if right {
		checkRight(t, f)
	} else {
		checkWrong(t, f)
	}
}

// checkDecoded holds Decode of b, and Encode back, against f.
func checkDecoded(t *testing.T, b []byte, f api.Frame) {
	t.Helper()
	got, errno := Decode(b)
	if !same(got, f) || errno != api.OK {
		fail(t, "Decode(%v) = %v, %v; want %v, E0", brief(b), brief(got), errno, brief(f))
		return
	}
	if back, errno := Encode(got); !bytes.Equal(back, b) || errno != api.OK {
		fail(t, "Encode of Decode(%v) = %v, %v", brief(b), brief(back), errno)
	}
}

func checkRefused(t *testing.T, b []byte, want api.Errno) {
	t.Helper()
	if f, errno := Decode(b); !same(f, api.Frame{}) || errno != want {
		fail(t, "Decode(%v) = %v, %v; want none, %v", brief(b), brief(f), errno, want)
	}
}

// checkBytes holds Decode of b against what taken says of it.
func checkBytes(t *testing.T, b []byte) {
	t.Helper()
	if f, errno := taken(b); errno == api.OK {
		checkDecoded(t, b, f)
	} else {
		checkRefused(t, b, errno)
	}
}

// checkCut holds Cut of right things against the chapter's words, and Join of the pieces against data.
func checkCut(t *testing.T, f api.Frame, data []byte) []api.Frame {
	t.Helper()
	list, errno := Cut(f, data)
	if errno != api.OK || len(list) == 0 {
		fail(t, "Cut of %d bytes by %v: %d pieces, %v", len(data), brief(f), len(list), errno)
		return nil
	}
	at := 0
	for i, piece := range list {
		last := i == len(list)-1
		ok := sameHead(piece, f) && piece.Offset == at && piece.More == !last && (last || len(piece.Data) == 468)
		if !ok || len(piece.Data) > len(data)-at || !bytes.Equal(piece.Data, data[at:at+len(piece.Data)]) {
			fail(t, "Cut of %d bytes by %v: piece %d is %v", len(data), brief(f), i, brief(piece))
			return nil
		}
		at += len(piece.Data)
	}
	last := list[len(list)-1]
	if at != len(data) || len(last.Data) > 468 || len(last.Data) == 0 && len(data) > 0 {
		fail(t, "Cut of %d bytes by %v: %d bytes in %d pieces, the last one %v", len(data), brief(f), at, len(list), brief(last))
	}
	checkJoined(t, list, data)
	return list
}

// mustCut is the pieces of data; without right ones the test ends.
func mustCut(t *testing.T, f api.Frame, data []byte) []api.Frame {
	t.Helper()
	list := checkCut(t, f, data)
	if t.Failed() {
		t.FailNow()
	}
	return list
}

func checkNotCut(t *testing.T, f api.Frame, data []byte, want api.Errno) {
	t.Helper()
	if list, errno := Cut(f, data); len(list) > 0 || errno != want {
		fail(t, "Cut of %d bytes by %v = %v, %v; want none, %v", len(data), brief(f), brief(list), errno, want)
	}
}

func checkJoined(t *testing.T, list []api.Frame, data []byte) {
	t.Helper()
	if got, errno := Join(list); !bytes.Equal(got, data) || errno != api.OK {
		fail(t, "Join(%v) = %v, %v; want %v, E0", brief(list), brief(got), errno, brief(data))
	}
}

func checkNotJoined(t *testing.T, list []api.Frame, want api.Errno) {
	t.Helper()
	if got, errno := Join(list); len(got) > 0 || errno != want {
		fail(t, "Join(%v) = %v, %v; want none, %v", brief(list), brief(got), errno, want)
	}
}

// checkList holds Join of list against what together says of it.
func checkList(t *testing.T, list []api.Frame) {
	t.Helper()
	if data, errno := together(list); errno == api.OK {
		checkJoined(t, list, data)
	} else {
		checkNotJoined(t, list, errno)
	}
}

// orders calls f with every order of list.
func orders(list []api.Frame, f func([]api.Frame)) {
	var put func(done, left []api.Frame)
	put = func(done, left []api.Frame) {
		if len(left) == 0 {
			f(done)
		}
		for i := range left {
			put(append(slices.Clone(done), left[i]), slices.Delete(slices.Clone(left), i, i+1))
		}
	}
	put(nil, list)
}
