package disk

import (
	"bytes"
	"fmt"
	"slices"
	"strings"
	"testing"

	"sundial/api"
)

// rising is n bytes, each one more than the one ahead of it; 251 is prime, so that no two stretches are alike.
func rising(n, first int) []byte {
	b := make([]byte, n)
	for i := range b {
		b[i] = byte((first + i) % 251)
	}
	return b
}

// fail tells what is wrong, each thing of it cut where it gets long.
func fail(t *testing.T, form string, things ...any) {
	t.Helper()
	for i, thing := range things {
		things[i] = fmt.Sprintf("%.300s", fmt.Sprint(thing))
	}
	t.Fatalf(form, things...)
}

// want fails if a call's answer isn't the one that is awaited.
func want(t *testing.T, what string, got, awaited api.Errno) {
	t.Helper()
	if got != awaited {
		fail(t, "%v: %v; want %v", what, got, awaited)
	}
}

// files are what a disk holds: the bytes of its files, by their names.
type files map[string]string

// look is what d holds; the power must be on.
func look(t *testing.T, d *Disk) files {
	t.Helper()
	held := files{}
	for _, name := range d.Names() {
		data, errno := d.Read(name)
		want(t, "Read of "+name, errno, api.OK)
		held[name] = string(data)
	}
	return held
}

// names are those of f, rising.
func (f files) names() []string {
	list := []string{}
	for name := range f {
		list = append(list, name)
	}
	slices.Sort(list)
	return list
}

// with is f with one file more, or with another one in its place.
func (f files) with(name, data string) files {
	g := files{name: data}
	for other, data := range f {
		if other != name {
			g[other] = data
		}
	}
	return g
}

// without is f less one file.
func (f files) without(name string) files {
	g := f.with(name, "")
	delete(g, name)
	return g
}

// checkHeld: d, its power on, holds these files and no others.
func checkHeld(t *testing.T, d *Disk, f files) {
	t.Helper()
	if got := d.Names(); !slices.Equal(got, f.names()) {
		fail(t, "Names = %q; want %q", got, f.names())
	}
	for name, data := range f {
		if got, errno := d.Read(name); string(got) != data || errno != api.OK {
			fail(t, "Read(%q) = %x, %v; want %x, E0", name, got, errno, data)
		}
	}
	for _, name := range []string{"none", "zz", "0", strings.Repeat("q", 32)} {
		if _, there := f[name]; !there {
			checkNoFile(t, d, name, api.ErrNone)
		}
	}
}

// checkNoFile: d doesn't tell a file's bytes, and says why.
func checkNoFile(t *testing.T, d *Disk, name string, why api.Errno) {
	t.Helper()
	if got, errno := d.Read(name); got != nil || errno != why {
		fail(t, "Read(%q) = %x, %v; want none, %v", name, got, errno, why)
	}
}

// checkOut: the power of d is out, so that every call answers ErrDown, whatever else is wrong, but Cut and Restart.
func checkOut(t *testing.T, d *Disk) {
	t.Helper()
	for _, name := range []string{"a", "b", "none", "", "A", strings.Repeat("a", 33)} {
		want(t, "Write, the power out", d.Write(name, []byte("abc")), api.ErrDown)
		want(t, "Write of too much, the power out", d.Write(name, make([]byte, 65537)), api.ErrDown)
		want(t, "Rename, the power out", d.Rename(name, "b"), api.ErrDown)
		want(t, "Rename, the power out", d.Rename("b", name), api.ErrDown)
		want(t, "Remove, the power out", d.Remove(name), api.ErrDown)
		checkNoFile(t, d, name, api.ErrDown)
	}
	if names := d.Names(); len(names) != 0 {
		fail(t, "Names, the power out = %q", names)
	}
}

// diskOf is a disk with these files.
func diskOf(t *testing.T, f files) *Disk {
	t.Helper()
	d := New()
	for name, data := range f {
		want(t, "Write of "+name, d.Write(name, []byte(data)), api.OK)
	}
	return d
}

// The chapter's examples.
func TestExamples(t *testing.T) {
	d := New()
	want(t, "Write a", d.Write("a", []byte("abc")), api.OK)
	want(t, "Cut(1, 2)", d.Cut(1, 2), api.OK)
	want(t, "Rename a, b", d.Rename("a", "b"), api.OK)
	want(t, "Write c", d.Write("c", []byte("xyz")), api.ErrDown)
	checkNoFile(t, d, "b", api.ErrDown)
	want(t, "Restart", d.Restart(), api.OK)
	checkHeld(t, d, files{"b": "abc", "c": "xy"})
	want(t, "Write A", d.Write("A", []byte("abc")), api.ErrText)
	want(t, "Cut(0, -1)", d.Cut(0, -1), api.OK)
	want(t, "Write b", d.Write("b", []byte("new")), api.ErrDown)
	want(t, "Restart", d.Restart(), api.OK)
	checkHeld(t, d, files{"b": "abc", "c": "xy"})
	want(t, "Cut(0, 0)", d.Cut(0, 0), api.OK)
	want(t, "Remove b", d.Remove("b"), api.ErrDown)
	want(t, "Restart", d.Restart(), api.OK)
	checkHeld(t, d, files{"b": "abc", "c": "xy"})
	want(t, "Remove zz", d.Remove("zz"), api.ErrNone)
	checkHeld(t, d, files{"b": "abc", "c": "xy"})
}

// P11.1: a new disk has no files, and power.
func TestNew(t *testing.T) {
	d := New()
	if d == nil {
		t.Fatal("New is nil")
	}
	checkHeld(t, d, files{})
	want(t, "Remove on a new disk", d.Remove("a"), api.ErrNone)
	want(t, "Rename on a new disk", d.Rename("a", "b"), api.ErrNone)
	want(t, "Rename to itself on a new disk", d.Rename("a", "a"), api.ErrNone)
	for range 10 {
		want(t, "Write, no Cut to come", d.Write("a", []byte("abc")), api.OK)
		want(t, "Remove, no Cut to come", d.Remove("a"), api.OK)
	}
	checkHeld(t, New(), files{})
}

// P11.1: of a nil disk every call answers ErrNil, whatever else is wrong, and Names none.
func TestNilDisk(t *testing.T) {
	var d *Disk
	for range 2 {
		for _, name := range []string{"a", "b", "", "A", strings.Repeat("a", 33), "\xff"} {
			for _, data := range [][]byte{nil, []byte("abc"), make([]byte, 65536), make([]byte, 65537)} {
				want(t, "Write on nil", d.Write(name, data), api.ErrNil)
			}
			want(t, "Rename on nil", d.Rename(name, "b"), api.ErrNil)
			want(t, "Rename on nil", d.Rename("b", name), api.ErrNil)
			want(t, "Remove on nil", d.Remove(name), api.ErrNil)
			checkNoFile(t, d, name, api.ErrNil)
		}
		for _, n := range []int{-1, 0, 1} {
			for _, keep := range []int{-1, 0, 1} {
				want(t, "Cut on nil", d.Cut(n, keep), api.ErrNil)
			}
		}
		want(t, "Restart on nil", d.Restart(), api.ErrNil)
		if names := d.Names(); len(names) != 0 {
			fail(t, "Names of nil = %q", names)
		}
	}
}

// No call panics, of a disk that New didn't make neither.
func TestZeroDisk(t *testing.T) {
	eachCall := []func(d *Disk) api.Errno{
		func(d *Disk) api.Errno { return d.Remove("a") },
		func(d *Disk) api.Errno { return d.Rename("a", "b") },
		func(d *Disk) api.Errno { _, errno := d.Read("a"); return errno },
		func(d *Disk) api.Errno { d.Names(); return api.ErrNone },
	}
	for _, call := range eachCall {
		var d Disk
		want(t, "a call of a zero disk", call(&d), api.ErrNone)
		want(t, "Restart", d.Restart(), api.OK)
		want(t, "Write", d.Write("a", []byte("abc")), api.OK)
		checkHeld(t, &d, files{"a": "abc"})
	}
	var d Disk
	want(t, "Cut", d.Cut(0, 2), api.OK)
	want(t, "Write", d.Write("a", []byte("abc")), api.ErrDown)
	checkOut(t, &d)
	want(t, "Restart", d.Restart(), api.OK)
	checkHeld(t, &d, files{"a": "ab"})
}

// P11.2, P11.3: a file holds what was written last.
func TestWriteAndRead(t *testing.T) {
	for _, n := range []int{0, 1, 2, 3, 100, 65535, 65536} {
		d := diskOf(t, files{"b": "other"})
		data := rising(n, 7)
		want(t, "Write", d.Write("a", data), api.OK)
		checkHeld(t, d, files{"a": string(data), "b": "other"})
		for _, m := range []int{0, 1, n, 65536, 3} {
			again := rising(m, 100)
			want(t, "Write again", d.Write("a", again), api.OK)
			checkHeld(t, d, files{"a": string(again), "b": "other"})
		}
	}
}

func TestWriteOfNoBytes(t *testing.T) {
	for _, data := range [][]byte{nil, {}, make([]byte, 0, 100), rising(9, 1)[9:]} {
		d := New()
		want(t, "Write of a new file", d.Write("a", data), api.OK)
		checkHeld(t, d, files{"a": ""})
		want(t, "Rename", d.Rename("a", "b"), api.OK)
		checkHeld(t, d, files{"b": ""})
		want(t, "Write", d.Write("b", []byte("abc")), api.OK)
		want(t, "Write over a file", d.Write("b", data), api.OK)
		checkHeld(t, d, files{"b": ""})
		want(t, "Remove", d.Remove("b"), api.OK)
		checkHeld(t, d, files{})
	}
}

func TestWriteOfEveryByte(t *testing.T) {
	d := New()
	data := make([]byte, 256)
	for i := range data {
		data[i] = byte(i)
		want(t, "Write of a byte", d.Write("one", []byte{byte(i)}), api.OK)
		if got, errno := d.Read("one"); !bytes.Equal(got, []byte{byte(i)}) || errno != api.OK {
			fail(t, "Read = %x, %v; want %02x, E0", got, errno, i)
		}
	}
	want(t, "Write", d.Write("all", data), api.OK)
	checkHeld(t, d, files{"one": "\xff", "all": string(data)})
}

func TestWriteOfTooMuch(t *testing.T) {
	for _, n := range []int{65537, 65538, 100000, 1 << 20} {
		d := diskOf(t, files{"a": "abc"})
		for _, name := range []string{"a", "b"} {
			want(t, "Write", d.Write(name, make([]byte, n)), api.ErrLong)
			checkHeld(t, d, files{"a": "abc"})
		}
	}
}

// P11.2: a file is called otherwise, and one that was called so is gone.
func TestRename(t *testing.T) {
	held := files{"a": "abc", "b": "uvwxyz", "c": ""}
	d := diskOf(t, held)
	want(t, "Rename to a name that no file has", d.Rename("a", "d"), api.OK)
	held = held.without("a").with("d", "abc")
	checkHeld(t, d, held)
	want(t, "Rename of the name that a file had", d.Rename("a", "b"), api.ErrNone)
	checkHeld(t, d, held)
	want(t, "Rename over a file", d.Rename("d", "b"), api.OK)
	held = held.without("d").with("b", "abc")
	checkHeld(t, d, held)
	want(t, "Rename over a file without bytes", d.Rename("b", "c"), api.OK)
	checkHeld(t, d, files{"c": "abc"})
	want(t, "Write of the name that a file had", d.Write("b", nil), api.OK)
	checkHeld(t, d, files{"b": "", "c": "abc"})
	want(t, "Rename of a file without bytes over another one", d.Rename("b", "c"), api.OK)
	checkHeld(t, d, files{"c": ""})
}

func TestRenameToItself(t *testing.T) {
	held := files{"a": "abc", "b": ""}
	d := diskOf(t, held)
	for _, name := range []string{"a", "b"} {
		want(t, "Rename to itself", d.Rename(name, name), api.OK)
		checkHeld(t, d, held)
	}
	want(t, "Rename of no file to itself", d.Rename("c", "c"), api.ErrNone)
	checkHeld(t, d, held)
}

func TestRenameOfNoFile(t *testing.T) {
	held := files{"a": "abc", "b": ""}
	d := diskOf(t, held)
	for _, to := range []string{"a", "b", "c", "d"} {
		want(t, "Rename of no file", d.Rename("c", to), api.ErrNone)
		checkHeld(t, d, held)
	}
}

func TestRemove(t *testing.T) {
	held := files{"a": "abc", "b": "", "c": "xyz"}
	d := diskOf(t, held)
	for len(held) > 0 {
		for _, name := range held.names() {
			other := diskOf(t, held)
			want(t, "Remove", other.Remove(name), api.OK)
			checkHeld(t, other, held.without(name))
			want(t, "Remove of what is gone", other.Remove(name), api.ErrNone)
			checkNoFile(t, other, name, api.ErrNone)
			checkHeld(t, other, held.without(name))
		}
		name := held.names()[len(held)/2]
		want(t, "Remove", d.Remove(name), api.OK)
		held = held.without(name)
		checkHeld(t, d, held)
	}
	want(t, "Write of what was gone", d.Write("a", []byte("new")), api.OK)
	checkHeld(t, d, files{"a": "new"})
}

// P11.3: Names rises, as texts do, whatever order files came in.
func TestNamesRise(t *testing.T) {
	rise := []string{".", "..", ".a", "0", "0.", "00", "01", "0a", "10", "9", "a", "a.", "a.b", "a0", "aa", "aaa", "ab", "b", "ba", "z", "zz"}
	for shift := range rise {
		d := New()
		for i := range rise {
			name := rise[(i*8+shift)%len(rise)]
			want(t, "Write of "+name, d.Write(name, []byte(name)), api.OK)
			if got := d.Names(); !slices.IsSorted(got) || len(got) != i+1 {
				fail(t, "behind %v files Names = %q", i+1, got)
			}
		}
		if got := d.Names(); !slices.Equal(got, rise) {
			fail(t, "Names = %q; want %q", got, rise)
		}
	}
}

func TestManyFiles(t *testing.T) {
	d, held := New(), files{}
	for i := range 3000 {
		name := fmt.Sprintf("%d.%x", i*7919%3000, i)
		held[name] = fmt.Sprint(i)
		want(t, "Write", d.Write(name, []byte(held[name])), api.OK)
	}
	checkHeld(t, d, held)
	for i, name := range held.names() {
		if i%3 > 0 {
			want(t, "Remove", d.Remove(name), api.OK)
			delete(held, name)
		}
	}
	checkHeld(t, d, held)
}

// P11.1, P11.4: two disks have nothing in common, neither files nor power.
func TestTwoDisks(t *testing.T) {
	one, two := New(), New()
	want(t, "Write on one", one.Write("a", []byte("abc")), api.OK)
	checkHeld(t, two, files{})
	want(t, "Write on two", two.Write("a", []byte("xyz")), api.OK)
	want(t, "Write on two", two.Write("b", []byte("uvw")), api.OK)
	checkHeld(t, one, files{"a": "abc"})
	want(t, "Cut of one", one.Cut(1, 2), api.OK)
	for range 5 {
		want(t, "Rename on two", two.Rename("b", "c"), api.OK)
		want(t, "Rename on two", two.Rename("c", "b"), api.OK)
	}
	want(t, "Write on one", one.Write("b", []byte("new")), api.OK)
	want(t, "Remove on one", one.Remove("a"), api.ErrDown)
	checkOut(t, one)
	checkHeld(t, two, files{"a": "xyz", "b": "uvw"})
	want(t, "Restart of two", two.Restart(), api.OK)
	checkOut(t, one)
	want(t, "Restart of one", one.Restart(), api.OK)
	checkHeld(t, one, files{"b": "new"})
	want(t, "Cut of one", one.Cut(0, 0), api.OK)
	want(t, "Cut of two", two.Cut(1, 0), api.OK)
	want(t, "Write on two", two.Write("c", nil), api.OK)
	want(t, "Restart of one", one.Restart(), api.OK)
	want(t, "Remove on two", two.Remove("c"), api.ErrDown)
	checkOut(t, two)
	checkHeld(t, one, files{"b": "new"})
}
