package hint

import (
	"fmt"
	"maps"
	"math"
	"testing"

	"sundial/api"
	"sundial/disk"
)

// files are what a disk holds: the bytes of its files, by their names.
type files map[string]string

// diskOf is a disk that holds f.
func diskOf(t *testing.T, f files) *disk.Disk {
	t.Helper()
	d := disk.New()
	for name, data := range f {
		want(t, "Write of "+name, d.Write(name, []byte(data)), api.OK)
	}
	return d
}

// look is what d holds; the power must be on.
func look(t *testing.T, d *disk.Disk) files {
	t.Helper()
	held := files{}
	for _, name := range d.Names() {
		data, errno := d.Read(name)
		want(t, "Read of "+name, errno, api.OK)
		held[name] = string(data)
	}
	return held
}

func checkHeld(t *testing.T, d *disk.Disk, f files) {
	t.Helper()
	if held := look(t, d); !maps.Equal(held, f) {
		fail(t, "the disk holds %q; want %q", held, f)
	}
}

func checkLoad(t *testing.T, d *disk.Disk, freq int, errno api.Errno) {
	t.Helper()
	if n, e := Load(d); n != freq || e != errno {
		fail(t, "Load = %v, %v; want %v, %v", n, e, freq, errno)
	}
}

// P12.2, P12.3: the chapter's example on a new disk, and the files behind each call.
func TestSavesOneBehindTheOther(t *testing.T) {
	d := disk.New()
	checkLoad(t, d, 0, api.ErrNone)
	want(t, "Save", Save(d, 5), api.OK)
	checkHeld(t, d, files{"drift": textOf(5)})
	checkLoad(t, d, 5, api.OK)
	want(t, "Save", Save(d, 6), api.OK)
	checkHeld(t, d, files{"drift": textOf(6), "drift.old": textOf(5)})
	checkLoad(t, d, 6, api.OK)
	want(t, "Save", Save(d, 6), api.OK)
	checkHeld(t, d, files{"drift": textOf(6), "drift.old": textOf(6)})
	want(t, "Save", Save(d, -7), api.OK)
	checkHeld(t, d, files{"drift": textOf(-7), "drift.old": textOf(6)})
	checkLoad(t, d, -7, api.OK)
}

// P12.1, P12.2: each hint is saved as it is, and loaded clamped.
func TestSaveOfEveryKindOfHint(t *testing.T) {
	d, old := disk.New(), files{}
	for _, freq := range hints() {
		want(t, fmt.Sprintf("Save of %d", freq), Save(d, freq), api.OK)
		held := files{"drift": textOf(freq)}
		if last, ok := old["drift"]; ok {
			held["drift.old"] = last
		}
		checkHeld(t, d, held)
		checkLoad(t, d, clamped(freq), api.OK)
		old = held
	}
}

// P12.2: what is no hint touches no file and makes no change, and is told ahead of what is wrong with the disk.
func TestSaveOfNoHint(t *testing.T) {
	for _, freq := range noHints() {
		for _, f := range []files{{}, {"drift": textOf(5)}, {"drift.old": "x"}, {"drift": textOf(6), "drift.new": "", "drift.old": textOf(5)}} {
			d := diskOf(t, f)
			want(t, "Cut", d.Cut(0, 1), api.OK)
			want(t, "Save", Save(d, freq), api.ErrRange)
			checkHeld(t, d, f)
			want(t, "Save behind it, at which the power goes out", Save(d, 5), api.ErrDown)
			want(t, "Save while the power is out", Save(d, freq), api.ErrRange)
		}
		want(t, "Save on a nil disk", Save(nil, freq), api.ErrRange)
	}
}

// P12.2, P12.3: the disk's own errors.
func TestNilDisk(t *testing.T) {
	for _, freq := range hints() {
		want(t, "Save", Save(nil, freq), api.ErrNil)
	}
	checkLoad(t, nil, 0, api.ErrNil)
	want(t, "putAside", putAside(nil), api.ErrNil)
}

func TestPowerThatIsOut(t *testing.T) {
	for _, f := range []files{{}, {"drift": textOf(5)}, {"drift.old": textOf(5)}, {"drift": textOf(5), "drift.old": textOf(4)}, {"drift": "x", "drift.old": textOf(4)}, {"drift.new": textOf(3)}} {
		d := diskOf(t, f)
		want(t, "Cut", d.Cut(0, -1), api.OK)
		want(t, "Write", d.Write("other", nil), api.ErrDown)
		for range 3 {
			want(t, "Save", Save(d, 9), api.ErrDown)
			want(t, "putAside", putAside(d), api.ErrDown)
			checkLoad(t, d, 0, api.ErrDown)
		}
		want(t, "Restart", d.Restart(), api.OK)
		checkHeld(t, d, f)
	}
}

// A disk of Go's zero value is like New's.
func TestZeroDisk(t *testing.T) {
	d := &disk.Disk{}
	checkLoad(t, d, 0, api.ErrNone)
	want(t, "Save", Save(d, 5), api.OK)
	checkLoad(t, d, 5, api.OK)
}

// kinds are what a file of the three may hold: "-" is no file.
func kinds(freq int) []string {
	text := textOf(freq)
	return []string{"-", text, "", text[:len(text)-1], text + "\n", "drift 0" + text[6:], "\x00\xff"}
}

// everyDisk hands on what a disk may hold of the three files, and another one beside them.
func everyDisk(with func(f files)) {
	for _, now := range kinds(11) {
		for _, old := range kinds(22) {
			for _, next := range kinds(33) {
				f := files{"drift": now, "drift.old": old, "drift.new": next, "drift.older": textOf(44), "dri": textOf(55)}
				maps.DeleteFunc(f, func(_, data string) bool { return data == "-" })
				with(f)
			}
		}
	}
}

// P12.2: whatever is there already, refused or not: the file is put aside if it is there, and the new one comes in its place.
func TestSaveOntoEveryDisk(t *testing.T) {
	everyDisk(func(f files) {
		d := diskOf(t, f)
		held := maps.Clone(f)
		if now, ok := f["drift"]; ok {
			held["drift.old"] = now
		}
		held["drift"] = textOf(7)
		delete(held, "drift.new")
		want(t, "Save", Save(d, 7), api.OK)
		checkHeld(t, d, held)
		checkLoad(t, d, 7, api.OK)
	})
}

// P12.3: what is loaded of every disk, and that Load changes no file.
func TestLoadOfEveryDisk(t *testing.T) {
	everyDisk(func(f files) {
		d := diskOf(t, f)
		freq, errno := 0, api.ErrNone
		switch {
		case f["drift"] == textOf(11):
			freq, errno = 11, api.OK
		case f["drift.old"] == textOf(22):
			freq, errno = 22, api.OK
		}
		want(t, "Cut", d.Cut(0, 1), api.OK)
		for range 2 {
			checkLoad(t, d, freq, errno)
			checkHeld(t, d, f)
		}
		want(t, "Write, at which the power goes out", d.Write("other", nil), api.ErrDown)
		checkLoad(t, d, 0, api.ErrDown)
	})
}

// P12.3: both files are clamped, and a file that is refused for its number counts for nothing.
func TestLoadClamps(t *testing.T) {
	for _, freq := range hints() {
		checkLoad(t, diskOf(t, files{"drift": textOf(freq)}), clamped(freq), api.OK)
		checkLoad(t, diskOf(t, files{"drift.old": textOf(freq)}), clamped(freq), api.OK)
		checkLoad(t, diskOf(t, files{"drift": "", "drift.old": textOf(freq)}), clamped(freq), api.OK)
		checkLoad(t, diskOf(t, files{"drift": textOf(3), "drift.old": textOf(freq)}), 3, api.OK)
		checkLoad(t, diskOf(t, files{"drift.new": textOf(freq)}), 0, api.ErrNone)
	}
	for _, freq := range noHints() {
		checkLoad(t, diskOf(t, files{"drift": textOf(freq)}), 0, api.ErrNone)
		checkLoad(t, diskOf(t, files{"drift": textOf(freq), "drift.old": textOf(6)}), 6, api.OK)
		checkLoad(t, diskOf(t, files{"drift": textOf(freq), "drift.old": textOf(math.MaxInt)}), 0, api.ErrNone)
	}
}
