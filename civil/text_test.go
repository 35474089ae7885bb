package civil

import (
	"math/rand"
	"strings"
	"testing"
	"time"

	"sundial/api"
)

// P3.3
func TestTextAndParseExamples(t *testing.T) {
	for text, d := range map[string]api.Date{
		"1900-01-01": date(1900, 1, 1), "1900-02-28": date(1900, 2, 28), "1900-12-31": date(1900, 12, 31), "1904-02-29": date(1904, 2, 29),
		"2000-02-29": date(2000, 2, 29), "2024-02-29": date(2024, 2, 29), "2026-11-05": date(2026, 11, 5), "2026-09-30": date(2026, 9, 30),
		"2026-10-10": date(2026, 10, 10), "2026-01-09": date(2026, 1, 9), "2100-02-28": date(2100, 2, 28), "9999-01-01": date(9999, 1, 1), "9999-12-31": date(9999, 12, 31),
	} {
		if got, e := Text(d); got != text || e != api.OK {
			t.Errorf("Text(%v) = %q, %v; want %q", d, got, e, text)
		}
		if got, e := Parse(text); got != d || e != api.OK {
			t.Errorf("Parse(%q) = %v, %v; want %v", text, got, e, d)
		}
	}
}

func refuseText(t *testing.T, s string) {
	t.Helper()
	if d, e := Parse(s); d != (api.Date{}) || e != api.ErrText {
		t.Errorf("Parse(%.40q) = %v, %v", s, d, e)
	}
}

func TestParseRefusesOtherTexts(t *testing.T) {
	for _, s := range []string{
		// Too short and too long.
		"", "2", "-", "--", "2026", "2026-", "2026-11", "2026-11-", "2026-11-0", "2026-11-5", "2026-1-05", "2026-1-5", "26-11-05", "226-11-05",
		"2026-11-05 ", " 2026-11-05", "2026-11-05\n", "2026-11-05\x00", "2026-11-050", "2026-11-005", "2026-011-05", "02026-11-05", "12026-11-05", "2026-11-05-", "2026-11-05-01", "2026-11-052026-11-05", "10000-01-01",
		strings.Repeat("2", 1<<20), strings.Repeat("2026-11-05", 1<<16), strings.Repeat("\xff", 10), strings.Repeat("-", 10), strings.Repeat("0", 10), "          ",
		// A wrong separator, or one at a wrong place.
		"2026/11/05", "2026-11/05", "2026/11-05", "2026.11.05", "2026 11 05", "2026111-05", "2026-11105", "2026111105", "20261105", "2026-1--05", "2026--1-05", "2026-11--5", "-026-11-05", "2026-11-0-", "202-611-05", "05-11-2026", "2026-110-5", "2026_11_05", "2026+11+05",
		"2026\u201311\u201305", "2026\u201011-05", "2026\u221211-05", "2026\uff0d11-05", "2026-11\u00ad05",
		// Signs, blanks and letters for digits.
		"+026-11-05", "2026-+1-05", "2026-11-+5", "2026-11- 5", "2026- 1-05", " 026-11-05", "2O26-11-05", "2026-l1-05", "2026-0b-05", "0x26-11-05", "2_26-11-05", "2026-Nov-5", "2026-11-0a", "1e03-11-05", "2026-11-0:", "2026-11-0/", ":026-11-05", "/026-11-05",
		// Digits of other scripts, in as many characters as a date, and in as many bytes.
		"\u0662026-11-05", "\u0662026-11-5", "\u066226-11-05", "2026-11-0\u0665", "2026-11-\u0665", "2026-\u0661-05", "2026-\u0661\u0661-05", "202\uff16-11-05", "2\uff16-11-05", "\u0968026-11-05", "\u0660\u0660\u0660\u0660\u0660", "2026-11-0\u00b5", "202\u00b2-11-05", "20\u00b2-11-05", "\U0001d7d0-11-05", "\U0001d7d0026-11-05",
		// Bytes that are no character, and the character that a range makes of them.
		"\xff026-11-05", "2026\xff11-05", "2026-11\xff05", "2026-11-0\xff", "2026-\x801-05", "2026-11-\xc3\xa9", "2026-11-0\xc3", "2026-11-0\xe2\x82", "2026-11-0\xe2", "\xed\xa0\x806-11-05", "2026-11-\xc0\xb5", "\xc0\xb226-11-05", "2026\xc0\xad1-05", "2026-11-0\ufffd", "\ufffd6-11-05", "2026-11-05\xff", "\xff2026-11-05", "\ufeff2026-11-05",
		// Bytes whose lower bits are those of a digit or of a separator.
		"\xb2026-11-05", "2026\xad11-05", "2026-11-0\x15", "2026-11-0\u0135", "2026\u012d1-05", "\u0132026-11-05",
		// Numbers that are no date.
		"0000-00-00", "0000-01-01", "0001-01-01", "1899-12-31", "1000-01-01", "0026-11-05", "2026-00-05", "2026-13-05", "2026-99-05", "2026-11-00", "2026-11-31", "2026-11-99", "2026-12-32", "2026-02-29", "2026-04-31", "2026-06-31", "2026-09-31", "2026-01-32", "1900-02-29", "2100-02-29", "2000-02-30", "2024-02-30", "9999-02-29", "9999-12-32", "9999-99-99",
	} {
		refuseText(t, s)
	}
}

// calendarDate is the date of a text, if it is one, by another calendar than the program's.
func calendarDate(s string) (api.Date, bool) {
	x, err := time.Parse("2006-01-02", s)
	if err != nil || x.Year() < 1900 || x.Format("2006-01-02") != s {
		return api.Date{}, false
	}
	return date(x.Year(), int(x.Month()), x.Day()), true
}

func checkText(t *testing.T, s string) {
	t.Helper()
	want, is := calendarDate(s)
	if !is {
		refuseText(t, s)
		return
	}
	if d, e := Parse(s); d != want || e != api.OK {
		t.Errorf("Parse(%q) = %v, %v; want %v", s, d, e, want)
	}
	if back, e := Text(want); back != s || e != api.OK {
		t.Errorf("Text(%v) = %q, %v; want %q", want, back, e, s)
	}
}

var startTexts = []string{"1900-01-01", "1900-02-28", "2000-02-29", "2024-02-29", "2026-11-05", "2026-12-31", "9999-12-31"}

func TestParseOfTextsWithOneByteChanged(t *testing.T) {
	for _, start := range startTexts {
		for place := range len(start) {
			for b := range 256 {
				checkText(t, start[:place]+string([]byte{byte(b)})+start[place+1:])
				checkText(t, start[:place]+string([]byte{byte(b)})+start[place:])
			}
			checkText(t, start[:place]+start[place+1:])
			checkText(t, start[:place])
		}
	}
}

func TestParseOfTextsWithOneRuneChanged(t *testing.T) {
	for _, start := range startTexts {
		for place := range len(start) {
			for r := rune(0); r < 0x3000; r++ {
				checkText(t, start[:place]+string(r)+start[place+1:])
			}
		}
	}
}

func TestParseOfEveryMonthAndDayOfSomeYears(t *testing.T) {
	for _, year := range []string{"0000", "0004", "1896", "1899", "1900", "1904", "1999", "2000", "2024", "2026", "2100", "2400", "9996", "9999"} {
		for i := range 10000 {
			monthDay := []byte{'-', byte('0' + i/1000), byte('0' + i/100%10), '-', byte('0' + i/10%10), byte('0' + i%10)}
			checkText(t, year+string(monthDay))
		}
	}
}

func TestParseOfRandomTexts(t *testing.T) {
	r := rand.New(rand.NewSource(33))
	marks := []string{"0", "1", "2", "3", "9", "-", "-", " ", "\u0665", "\xff", "\ufffd", "/", ":"}
	for range 200000 {
		s := startTexts[r.Intn(len(startTexts))]
		for range r.Intn(3) {
			from := r.Intn(len(s) + 1)
			to := from + r.Intn(min(3, len(s)-from+1))
			put := strings.Repeat(marks[r.Intn(len(marks))], r.Intn(3))
			s = s[:from] + put + s[to:]
		}
		checkText(t, s)
	}
}
