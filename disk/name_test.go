package disk

import (
	"regexp"
	"strings"
	"testing"

	"sundial/api"
)

// P11.2, P11.3: what a file's name is.

// nameForm is a file's name by other means.
var nameForm = regexp.MustCompile(`\A[a-z0-9.]{1,32}\z`)

// checkName: every call takes name, or refuses it, in each place that a name has.
func checkName(t *testing.T, name string) {
	t.Helper()
	right := nameForm.MatchString(name)
	if !right {
		checkRefused(t, name)
		return
	}
	d := diskOf(t, files{"other": "xyz"})
	want(t, "Write of "+name, d.Write(name, []byte("abc")), api.OK)
	checkHeld(t, d, files{"other": "xyz", name: "abc"})
	want(t, "Rename of "+name, d.Rename(name, "second"), api.OK)
	checkHeld(t, d, files{"other": "xyz", "second": "abc"})
	checkNoFile(t, d, name, api.ErrNone)
	want(t, "Rename to "+name, d.Rename("second", name), api.OK)
	checkHeld(t, d, files{"other": "xyz", name: "abc"})
	want(t, "Rename of the name to itself "+name, d.Rename(name, name), api.OK)
	want(t, "Remove of "+name, d.Remove(name), api.OK)
	checkHeld(t, d, files{"other": "xyz"})
	want(t, "Remove of "+name, d.Remove(name), api.ErrNone)
	want(t, "Rename of "+name, d.Rename(name, "other"), api.ErrNone)
}

// checkRefused: no call takes the name, whether there are the other things that it asks for or not, and nothing is changed.
func checkRefused(t *testing.T, name string) {
	t.Helper()
	held := files{"a": "abc", "b": "xyz"}
	d := diskOf(t, held)
	for _, data := range [][]byte{nil, []byte("new"), make([]byte, 65536), make([]byte, 65537)} {
		if errno := d.Write(name, data); errno != api.ErrText {
			fail(t, "Write(%q, %v bytes): %v; want E4", name, len(data), errno)
		}
	}
	for _, other := range []string{"a", "none", "", "A", name} {
		if one, two := d.Rename(name, other), d.Rename(other, name); one != api.ErrText || two != api.ErrText {
			fail(t, "Rename of %q and %q: %v, and the other way round %v; want E4", name, other, one, two)
		}
	}
	if errno := d.Remove(name); errno != api.ErrText {
		fail(t, "Remove(%q): %v; want E4", name, errno)
	}
	checkNoFile(t, d, name, api.ErrText)
	checkHeld(t, d, held)
}

func TestNamesOfEveryLength(t *testing.T) {
	for _, c := range []string{"a", "z", "0", "9", ".", "q", "5"} {
		for n := range 40 {
			checkName(t, strings.Repeat(c, n))
		}
		checkName(t, strings.Repeat(c, 1000))
		checkName(t, strings.Repeat(c, 65536))
	}
	for _, n := range []int{0, 33} {
		checkRefused(t, strings.Repeat("a", n))
	}
}

// Names of as many characters as may be, but of more bytes.
func TestNamesOfWideCharacters(t *testing.T) {
	for _, c := range []string{"é", "ａ", "０", "．", "٠", "𝟎", "ı", "ß", "\u00a0", "\u3000", "\u200b", "\ufffd", "\ufeff"} {
		for _, n := range []int{1, 2, 8, 11, 16, 32, 33} {
			checkRefused(t, strings.Repeat(c, n))
		}
	}
}

// around are texts with c in every kind of place.
func around(c string) []string {
	a := strings.Repeat("a", 32)
	return []string{c, c + c, c + "a", "a" + c, "a" + c + "b", "." + c, c + ".", c + "0", "0" + c, a[:15] + c + a[:15], c + a[1:], a[1:] + c, a + c}
}

func TestNamesOfEveryCharacter(t *testing.T) {
	count := 0
	for c := rune(0); c < 0x250; c++ {
		for _, name := range around(string(c)) {
			checkName(t, name)
		}
		if nameForm.MatchString(string(c)) {
			count++
		}
	}
	if count != 26+10+1 {
		t.Errorf("%d characters may stand in a name", count)
	}
}

// Those beside the ones that may stand there, capital letters and blanks, written out.
func TestNamesOfWrongCharacters(t *testing.T) {
	for _, c := range []string{"`", "{", "/", ":", "-", ",", "A", "Z", "Q", "@", "[", "_", "\\", " ", "\t", "\n", "\r", "\x00", "\x7f", "\x80"} {
		for _, name := range around(c) {
			checkRefused(t, name)
		}
	}
}

func TestNamesOfEveryByte(t *testing.T) {
	for c := range 256 {
		for _, name := range around(string([]byte{byte(c)})) {
			checkName(t, name)
		}
	}
	for _, name := range []string{"\xc3", "\xc3\xa9", "a\xc0\xae", "\xed\xa0\x80", "a\xff", "\xf4\x90\x80\x80"} {
		checkRefused(t, name)
	}
}

// Characters that are like those that may stand in a name in their lowest byte.
func TestNamesOfCharactersFurtherBehind(t *testing.T) {
	for _, c := range "az09." {
		for _, more := range []rune{0x80, 0x100, 0x1000, 0xff00, 0x10000, 0x100000} {
			for _, name := range around(string(c + more)) {
				checkRefused(t, name)
			}
		}
	}
}

// Names that another store would take for places, or for one another.
func TestNamesAreOnlyNames(t *testing.T) {
	d, held := New(), files{}
	for _, name := range []string{".", "..", "...", ".a", "a.", "a..b", "drift", "drift.new", "drift.old", "0", "00", "000", "e", "con"} {
		want(t, "Write of "+name, d.Write(name, []byte("of "+name)), api.OK)
		held[name] = "of " + name
		checkHeld(t, d, held)
	}
	checkRefused(t, "./a")
	checkRefused(t, "a/b")
	checkRefused(t, "../a")
}
