package hint

import (
	"bytes"
	"slices"
	"strings"
	"sync"
	"testing"
	"unsafe"

	"sundial/api"
	"sundial/disk"
)

// Rule 3: what is handed in stays as it was and is not kept; answers are new memory.

// roomy is b with spare bytes ahead of it and behind it, and all of them.
func roomy(b []byte, spare int) (piece, all []byte) {
	all = slices.Concat(bytes.Repeat([]byte{0xa5}, spare), b, bytes.Repeat([]byte{0x5a}, spare))
	return all[spare : spare+len(b)], all
}

func TestTextHandedInStays(t *testing.T) {
	for _, text := range []string{"", textOf(7), textOf(-600000), textOf(7)[:10], "drift 07 00000000\n", textOf(7) + "\n", strings.ToUpper(textOf(7)), "drift", "drift 7"} {
		for _, spare := range []int{0, 1, 30} {
			b, all := roomy([]byte(text), spare)
			was := bytes.Clone(all)
			freq, errno := parseByForm(b)
			for range 2 {
				checkParse(t, b, freq, errno)
			}
			if !bytes.Equal(all, was) {
				fail(t, "Parse changes %q with %d spare bytes", text, spare)
			}
		}
	}
}

func TestTextsAreNewMemory(t *testing.T) {
	one, _ := Text(7)
	two, _ := Text(7)
	b := unsafe.Slice(unsafe.StringData(one), len(one))
	for i := range b {
		b[i] ^= 0xff
	}
	if two != textOf(7) {
		t.Errorf("Text changes with another answer: %q", two)
	}
	if three, _ := Text(7); three != textOf(7) {
		t.Errorf("Text is kept: %q", three)
	}
}

// Rule 4: nothing is kept but on the disk.
func TestDisksDoNotKnowOfOneAnother(t *testing.T) {
	one, two := disk.New(), disk.New()
	want(t, "Save", Save(one, 5), api.OK)
	checkLoad(t, two, 0, api.ErrNone)
	want(t, "Save", Save(two, 6), api.OK)
	checkLoad(t, one, 5, api.OK)
	checkHeld(t, one, files{"drift": textOf(5)})
	checkHeld(t, two, files{"drift": textOf(6)})
}

func TestManyAtOnce(t *testing.T) {
	var group sync.WaitGroup
	for i := range 8 {
		group.Go(func() {
			d := disk.New()
			for n := range 200 {
				freq := 1000*i + n
				if Save(d, freq) != api.OK {
					t.Errorf("Save of %d", freq)
				}
				if got, errno := Load(d); got != freq || errno != api.OK {
					t.Errorf("Load = %d, %v; want %d", got, errno, freq)
				}
			}
		})
	}
	group.Wait()
}
