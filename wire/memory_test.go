package wire

import (
	"bytes"
	"slices"
	"sync"
	"testing"

	"sundial/api"
)

// P9.5: what is handed in stays, answers are new memory, and nothing is kept.

// roomy is b with spare bytes ahead of it and behind it, and all of them.
func roomy(b []byte, spare int) (piece, all []byte) {
	all = slices.Concat(bytes.Repeat([]byte{0xa5}, spare), b, bytes.Repeat([]byte{0x5a}, spare))
	return all[spare : spare+len(b)], all
}

// handed is a packet, with all the memory that it stands in.
type handed struct {
	p      api.Packet
	fields []api.Field
	lists  [][]byte
}

// handOut is p with room behind its lists.
func handOut(p api.Packet, spare int) *handed {
	h := &handed{p: p}
	h.fields = make([]api.Field, len(p.Fields)+spare)
	for i := range h.fields {
		h.fields[i] = api.Field{Type: 77, Body: rising(12, i)}
	}
	copy(h.fields, p.Fields)
	for i, f := range h.fields {
		piece, all := roomy(f.Body, spare)
		h.fields[i].Body = piece
		h.lists = append(h.lists, all)
	}
	h.p.Fields = h.fields[:len(p.Fields)]
	piece, all := roomy(p.Digest, spare)
	h.p.Digest = piece
	h.lists = append(h.lists, all)
	return h
}

// state is all that h holds, in new memory.
func (h *handed) state() ([]api.Field, [][]byte) {
	fields := slices.Clone(h.fields)
	for i, f := range fields {
		fields[i].Body = bytes.Clone(f.Body)
	}
	var lists [][]byte
	for _, list := range h.lists {
		lists = append(lists, bytes.Clone(list))
	}
	return fields, lists
}

func (h *handed) is(fields []api.Field, lists [][]byte) bool {
	return slices.EqualFunc(h.fields, fields, sameField) && slices.EqualFunc(h.lists, lists, bytes.Equal)
}

// samples are packets of all ends, right ones and wrong ones.
func samples() []api.Packet {
	var list []api.Packet
	for _, auth := range auths {
		list = append(list, packet(auth), packet(auth, 24), packet(auth, 12, 24), packet(auth, 24, 24, 24, 24, 24, 24, 24, 24), packet(auth, 940))
		list = append(list, packet(auth, 12), packet(auth, 24, 25), packet(auth, 24, 24, 24, 24, 24, 24, 24, 24, 24), packet(auth, 24, 1000))
		list = append(list, withDigest(packet(auth, 24), 20), withDigest(packet(auth, 24), 17))
	}
	return list
}

// rightSamples are those of samples that are right.
func rightSamples() []api.Packet {
	return slices.DeleteFunc(samples(), func(p api.Packet) bool { return Check(p) != api.OK })
}

func TestPacketsHandedInStay(t *testing.T) {
	for _, p := range samples() {
		for _, spare := range []int{0, 1, 4, 30} {
			h := handOut(p, spare)
			fields, lists := h.state()
			Check(h.p)
			Encode(h.p)
			if !h.is(fields, lists) {
				t.Fatalf("with %d spare the calls change %v", spare, p)
			}
		}
	}
}

func TestBytesHandedInStay(t *testing.T) {
	for _, p := range samples() {
		b := written(p)
		for _, n := range []int{0, 1, 47, 48, len(b) - 4, len(b) - 1, len(b)} {
			for _, spare := range []int{0, 1, 4, 30, 2000} {
				piece, all := roomy(b[:n], spare)
				was := bytes.Clone(all)
				Decode(piece)
				Signed(piece)
				if !bytes.Equal(all, was) {
					t.Fatalf("with %d spare the calls change %x", spare, b[:n])
				}
			}
		}
	}
}

// overwrite changes a list, and all that it has room for.
func overwrite(b []byte) {
	b = b[:cap(b)]
	for i := range b {
		b[i] ^= 0xff
	}
}

// lists are all lists of bytes of a packet.
func lists(p api.Packet) [][]byte {
	list := [][]byte{p.Digest}
	for _, f := range p.Fields {
		list = append(list, f.Body)
	}
	return list
}

func TestEncodeAnswersNewMemory(t *testing.T) {
	for _, p := range rightSamples() {
		h := handOut(p, 30)
		fields, had := h.state()
		one, _ := Encode(h.p)
		two, _ := Encode(h.p)
		overwrite(one)
		if !bytes.Equal(two, written(p)) || !h.is(fields, had) {
			t.Errorf("a change of the bytes of %v changes another list", p)
		}
		for _, list := range h.lists {
			overwrite(list)
		}
		for i := range h.fields {
			h.fields[i].Type = 0
		}
		if !bytes.Equal(two, written(p)) {
			t.Errorf("the bytes of %v change with what was handed in", p)
		}
		checkRight(t, p)
	}
}

// Each list of an answer in turn is changed, and all the others stay.
func TestDecodeAnswersNewMemory(t *testing.T) {
	for _, p := range rightSamples() {
		for i := range lists(p) {
			piece, all := roomy(written(p), 30)
			was := bytes.Clone(all)
			one, _ := Decode(piece)
			two, _ := Decode(piece)
			overwrite(lists(one)[i])
			if !same(two, p) || !bytes.Equal(all, was) {
				t.Fatalf("a change of the list %d of %v changes another answer, or the bytes", i, p)
			}
			overwrite(lists(one)[i])
			if !same(one, p) {
				t.Fatalf("a change of the list %d of %v changes what isn't it", i, p)
			}
			overwrite(lists(one)[i])
			for j, list := range lists(one) {
				if j != i && !bytes.Equal(list, lists(p)[j]) {
					t.Fatalf("a change of the list %d of %v changes the list %d", i, p, j)
				}
			}
			overwrite(all)
			if !same(two, p) {
				t.Fatalf("the packet %v changes with its bytes", p)
			}
		}
	}
}

func TestDecodeAnswersNewFields(t *testing.T) {
	for _, p := range rightSamples() {
		b := written(p)
		one, _ := Decode(b)
		two, _ := Decode(b)
		for i := range one.Fields[:cap(one.Fields)] {
			one.Fields[:cap(one.Fields)][i] = api.Field{Type: 9, Body: []byte{1}}
		}
		if !same(two, p) {
			t.Errorf("a change of the fields of %v changes another answer", p)
		}
		checkDecoded(t, b, p)
	}
}

func TestSignedAnswersNewMemory(t *testing.T) {
	for _, p := range rightSamples() {
		piece, all := roomy(written(p), 30)
		was := bytes.Clone(all)
		want := written(withoutEnd(p))
		one, _ := Signed(piece)
		two, _ := Signed(piece)
		overwrite(one)
		if !bytes.Equal(two, want) || !bytes.Equal(all, was) {
			t.Errorf("a change of what is signed of %v changes another list", p)
		}
		overwrite(all)
		if !bytes.Equal(two, want) {
			t.Errorf("what is signed of %v changes with the bytes", p)
		}
	}
}

// One list may be the bodies and the digest.
func TestOneListHandedInTwice(t *testing.T) {
	b := rising(40, 1)
	p := packet(api.AuthMac)
	p.Fields = []api.Field{{Type: 1, Body: b[:24]}, {Type: 2, Body: b[4:28]}, {Type: 3, Body: b[:24]}}
	p.Digest = b[8:24]
	checkRight(t, p)
	if !bytes.Equal(b, rising(40, 1)) {
		t.Errorf("left is %x", b)
	}
}

func TestAnswersHangOnWhatIsHandedInAlone(t *testing.T) {
	list := rightSamples()
	var all sync.WaitGroup
	for range 8 {
		all.Go(func() {
			for _, p := range list {
				checkRight(t, p)
				checkRefused(t, written(p)[:47], api.ErrShort)
			}
		})
	}
	all.Wait()
}
