package disk

import (
	"bytes"
	"slices"
	"strings"
	"sync"
	"testing"
	"unsafe"

	"sundial/api"
)

// P11.6: what is handed in stays and is not kept; answers are new memory.

// roomy is b with spare bytes ahead of it and behind it, and all of them.
func roomy(b []byte, spare int) (piece, all []byte) {
	all = slices.Concat(bytes.Repeat([]byte{0xa5}, spare), b, bytes.Repeat([]byte{0x5a}, spare))
	return all[spare : spare+len(b)], all
}

// overwrite changes a list, and all that it has room for.
func overwrite(b []byte) {
	b = b[:cap(b)]
	for i := range b {
		b[i] ^= 0xff
	}
}

// lengths are those of data that is handed in.
var lengths = []int{0, 1, 2, 5, 31, 32, 33, 500, 65535, 65536, 65537}

func TestDataHandedInStays(t *testing.T) {
	for _, n := range lengths {
		for _, spare := range []int{0, 1, 30, 1000} {
			for _, keep := range []int{-1, 0, 1, 20, 70000} {
				data, all := roomy(rising(n, 3), spare)
				was := bytes.Clone(all)
				d := diskOf(t, files{"a": "abc"})
				d.Write("a", data)
				d.Write("b", data)
				d.Rename("b", "c")
				d.Write("c", []byte("new"))
				d.Cut(0, keep)
				d.Write("a", data)
				d.Write("a", data)
				d.Restart()
				d.Write("a", []byte("uvwxyz"))
				d.Remove("a")
				if !bytes.Equal(all, was) {
					fail(t, "%d bytes with %d spare are changed", n, spare)
				}
			}
		}
	}
}

func TestDataHandedInIsNotKept(t *testing.T) {
	for _, n := range lengths[:len(lengths)-1] {
		for _, spare := range []int{0, 1, 30} {
			for _, keep := range []int{0, 1, 2, 70000} {
				data, all := roomy(rising(n, 3), spare)
				d := New()
				want(t, "Write", d.Write("a", data), api.OK)
				want(t, "Write", d.Write("b", data), api.OK)
				want(t, "Rename", d.Rename("b", "c"), api.OK)
				want(t, "Cut", d.Cut(0, keep), api.OK)
				want(t, "Write", d.Write("d", data), api.ErrDown)
				want(t, "Restart", d.Restart(), api.OK)
				overwrite(all)
				whole := string(rising(n, 3))
				checkHeld(t, d, files{"a": whole, "c": whole, "d": whole[:min(keep, n)]})
			}
		}
	}
}

// A name's bytes may be written afterwards, too, where they are ones that can be.
func TestNamesHandedInAreNotKept(t *testing.T) {
	text := func(b []byte) string { return unsafe.String(&b[0], len(b)) }
	one, two, three := []byte("one"), []byte("two"), []byte("three")
	d := New()
	want(t, "Write", d.Write(text(one), []byte("abc")), api.OK)
	want(t, "Write", d.Write(text(two), []byte("xyz")), api.OK)
	want(t, "Rename", d.Rename(text(two), text(three)), api.OK)
	copy(one, "zzz")
	copy(two, "yyy")
	copy(three, "xxxxx")
	held := files{"one": "abc", "three": "xyz"}
	checkHeld(t, d, held)
	// Over a file that is there, by a name in other memory.
	one, three = []byte("one"), []byte("three")
	want(t, "Write", d.Write(text(one), []byte("new")), api.OK)
	want(t, "Rename to itself", d.Rename(text(three), string(three)), api.OK)
	want(t, "Rename to itself", d.Rename(string(three), text(three)), api.OK)
	copy(one, "zzz")
	copy(three, "xxxxx")
	checkHeld(t, d, held.with("one", "new"))
	three = []byte("three")
	want(t, "Rename over a file", d.Rename("one", text(three)), api.OK)
	copy(three, "xxxxx")
	checkHeld(t, d, files{"three": "new"})
}

// memoryOf tells where a text's bytes lie.
func memoryOf(s string) *byte { return unsafe.StringData(s) }

func TestNamesAnswersNewMemory(t *testing.T) {
	names := []string{strings.Repeat("a", 32), "b", "c.d", "e"}
	d := New()
	for _, name := range names {
		want(t, "Write", d.Write(name, nil), api.OK)
	}
	one, two := d.Names(), d.Names()
	for i, name := range names {
		if memoryOf(one[i]) == memoryOf(two[i]) || memoryOf(one[i]) == memoryOf(name) {
			fail(t, "Names tells %q in memory that something else has", name)
		}
		for kept := range d.files {
			if memoryOf(one[i]) == memoryOf(kept) {
				fail(t, "Names tells %q in the disk's memory", name)
			}
		}
	}
	for i := range one {
		one[i] = "changed"
	}
	_ = append(one[:0], "more", "and", "more")
	if !slices.Equal(two, names) {
		fail(t, "left is %q", two)
	}
	checkHeld(t, d, files{names[0]: "", "b": "", "c.d": "", "e": ""})
}

func TestReadAnswersNewMemory(t *testing.T) {
	for _, n := range lengths[:len(lengths)-1] {
		data, all := roomy(rising(n, 3), 30)
		was := bytes.Clone(all)
		d := New()
		want(t, "Write", d.Write("a", data), api.OK)
		one, _ := d.Read("a")
		two, _ := d.Read("a")
		overwrite(one)
		_ = append(one[:0], 7, 7, 7)
		if !bytes.Equal(two, rising(n, 3)) || !bytes.Equal(all, was) {
			fail(t, "a change of %d bytes that were read changes another list", n)
		}
		checkHeld(t, d, files{"a": string(rising(n, 3))})
		overwrite(two)
		want(t, "Rename", d.Rename("a", "b"), api.OK)
		checkHeld(t, d, files{"b": string(rising(n, 3))})
	}
}

// What was read stays as it was, whatever becomes of the file.
func TestWhatWasReadStays(t *testing.T) {
	d := diskOf(t, files{"a": "abcdef", "b": "xyz"})
	one, _ := d.Read("a")
	two, _ := d.Read("b")
	names := d.Names()
	want(t, "Write", d.Write("a", []byte("ABC")), api.OK)
	want(t, "Write", d.Write("b", []byte("XYZ")), api.OK)
	want(t, "Rename", d.Rename("a", "c"), api.OK)
	want(t, "Cut", d.Cut(0, 1), api.OK)
	want(t, "Write", d.Write("b", []byte("12345")), api.ErrDown)
	want(t, "Restart", d.Restart(), api.OK)
	want(t, "Remove", d.Remove("b"), api.OK)
	if string(one) != "abcdef" || string(two) != "xyz" || !slices.Equal(names, []string{"a", "b"}) {
		fail(t, "what was read is %q and %q, and %q", one, two, names)
	}
}

// One list may be written to several files, and to a file what was read of it.
func TestOneListHandedInTwice(t *testing.T) {
	b := rising(100, 1)
	d := New()
	want(t, "Write", d.Write("a", b), api.OK)
	want(t, "Write", d.Write("b", b[10:20]), api.OK)
	read, _ := d.Read("a")
	want(t, "Write", d.Write("a", read[50:]), api.OK)
	want(t, "Write", d.Write("c", read), api.OK)
	overwrite(read)
	overwrite(b)
	b = rising(100, 1)
	checkHeld(t, d, files{"a": string(b[50:]), "b": string(b[10:20]), "c": string(b)})
}

// Files that came from one another by Rename have no memory in common.
func TestFilesShareNoMemory(t *testing.T) {
	d := New()
	data := rising(40, 1)
	for _, name := range []string{"a", "b", "c"} {
		want(t, "Write", d.Write(name, data[:20]), api.OK)
	}
	want(t, "Rename", d.Rename("a", "d"), api.OK)
	want(t, "Write", d.Write("a", data), api.OK)
	want(t, "Cut", d.Cut(0, 5), api.OK)
	want(t, "Write", d.Write("b", data[20:]), api.ErrDown)
	want(t, "Restart", d.Restart(), api.OK)
	checkHeld(t, d, files{"a": string(data), "b": string(data[20:25]), "c": string(data[:20]), "d": string(data[:20])})
}

// Rule 4: what a disk answers hangs on what it was told, and on no other disk.
func TestDisksSideBySide(t *testing.T) {
	var all sync.WaitGroup
	for i := range 8 {
		all.Go(func() {
			for n := range 200 {
				d, f := New(), files{"a": "abc", "b": strings.Repeat("b", i)}
				for _, name := range f.names() {
					if d.Write(name, []byte(f[name])) != api.OK {
						t.Error("Write is refused")
					}
				}
				d.Cut(i, n)
				for at := range 10 {
					errno := d.Rename("a", "a")
					if down := at >= i; down != (errno == api.ErrDown) {
						t.Errorf("Cut(%d): the change %d: %v", i, at, errno)
					}
				}
				d.Restart()
				if names := d.Names(); !slices.Equal(names, f.names()) {
					t.Errorf("Names = %q; want %q", names, f.names())
				}
			}
		})
	}
	all.Wait()
}
