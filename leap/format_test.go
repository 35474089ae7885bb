package leap

import (
	"math/rand"
	"strings"
	"testing"

	"sundial/api"
)

func checkFormat(t *testing.T, l api.Leaps, want string) {
	t.Helper()
	if text, errno := Format(l); text != want || errno != api.OK {
		t.Errorf("Format(%.200v) = %q, %v; want %q", l, text, errno, want)
	}
}

// P8.3
func TestFormatOfTheExample(t *testing.T) {
	checkFormat(t, exampleTable(), "#@ 2300000000\n2272060800 10\n2287785600 11\n#h 0ab65790e06d6d46f620209b04069816\n")
}

func TestFormatOfTables(t *testing.T) {
	checkFormat(t, api.Leaps{Changes: []api.Change{{}}}, lines("#@ 0", "0 0", sum("0 0 0")))
	checkFormat(t, api.Leaps{Changes: []api.Change{{Offset: 200}}, Expires: seconds(1)}, lines("#@ 1", "0 200", sum("1 0 200")))
	checkFormat(t, tableOf(0, 0, 1, 1), lines("#@ 9999999999", "0 0", "2678400 1", sum("9999999999 0 0 2678400 1")))
	checkFormat(t, tableOf(1, 10, 2, 9, 3, 8), lines("#@ 9999999999", "2678400 10", "5097600 9", "7776000 8", sum("9999999999 2678400 10 5097600 9 7776000 8")))
	checkFormat(t, tableOf(lastMonth, 199), lines("#@ 9999999999", "9998294400 199", sum("9999999999 9998294400 199")))
}

func TestFormatRefusesTablesThatAreNotRight(t *testing.T) {
	for _, l := range []api.Leaps{
		{}, {Expires: seconds(5)}, {Changes: []api.Change{{At: 1}}}, {Changes: []api.Change{{}}, Expires: 1}, {Changes: []api.Change{{}}, Expires: -1}, {Changes: []api.Change{{}}, Expires: seconds(10000000000)}, {Changes: []api.Change{{Offset: -1}}}, {Changes: []api.Change{{Offset: 201}}}, tableOf(0, 10, 1, 12), tableOf(1, 10, 0, 11),
	} {
		if text, errno := Format(l); text != "" || errno != api.ErrShape {
			t.Errorf("Format(%v) = %q, %v; want ErrShape", l, text, errno)
		}
	}
}

// P8.7
func checkReadBack(t *testing.T, l api.Leaps) {
	t.Helper()
	text, errno := Format(l)
	if errno != api.OK {
		t.Errorf("Format(%.200v): %v", l, errno)
	}
	if want, fault := wantedParse(text); !same(want, l) || fault != (api.Fault{}) {
		t.Errorf("by the chapter's words %.200q says %.200v, %v", text, want, fault)
	}
	checkParse(t, text, l)
	checkParse(t, strings.ReplaceAll(text, "\n", "\r\n"), l)
}

func TestWhatIsWrittenIsReadBack(t *testing.T) {
	for _, l := range append(rightTables(), fullTable()) {
		for _, expires := range []api.Time{l.Expires, 0, seconds(1), seconds(10), seconds(9999999999)} {
			l.Expires = expires
			checkReadBack(t, l)
		}
	}
	for offset := range 201 {
		for n := 0; n <= lastMonth; n += 100 {
			checkReadBack(t, tableOf(n, offset))
		}
	}
	r := rand.New(rand.NewSource(83))
	for range 2000 {
		checkReadBack(t, randomTable(r, 40))
	}
}

func TestWhatIsReadIsWrittenAgain(t *testing.T) {
	want := lines(exampleLines...)
	l, fault := Parse("\n# x\n" + exampleLines[3] + "\n\u3000" + exampleLines[1] + " # y\r\n#@\t2300000000\n2287785600\t11")
	if fault != (api.Fault{}) {
		t.Error(fault)
	}
	checkFormat(t, l, want)
}
