package radio

import (
	"fmt"
	"math/rand"
	"regexp"
	"strconv"
	"strings"
	"testing"
	"time"

	"sundial/api"
	"sundial/words"
)

func checkCode(t *testing.T, line string, want api.Time, wantErrno api.Errno) {
	t.Helper()
	if x, errno := Code(line); x != want || errno != wantErrno {
		t.Fatalf("Code(%.300q) = %d, %v; want %d, %v", line, x, errno, want, wantErrno)
	}
}

func checkNoCode(t *testing.T, lines ...string) {
	t.Helper()
	for _, line := range lines {
		checkCode(t, line, 0, api.ErrText)
	}
}

func checkCodeTellsNone(t *testing.T, lines ...string) {
	t.Helper()
	for _, line := range lines {
		checkCode(t, line, 0, api.ErrNone)
	}
}

// P13.2
func TestCodeOfTheExamples(t *testing.T) {
	checkCode(t, "T 2026 319 120000", noon, api.OK)
	checkCode(t, "T 2026 319 120000 0", noon, api.OK)
	checkCodeTellsNone(t, "T 2026 319 120000 9", "T 2026 366 120000")
	checkNoCode(t, "T 2026 319 12:00")
}

func TestCodeOfWords(t *testing.T) {
	for _, line := range []string{"  T 2026 319 120000", "T\t2026\u00a0319\u3000120000", "T    2026 319 120000  ", "T 2026 319 120000 # 9", "T 2026 319 120000 #9", "T 2026 319 120000 8 # é \" \\ 9", "T 2026 319 120000 #", "T 2026 319 120000 # \ufffd"} {
		checkCode(t, line, noon, api.OK)
	}
	checkNoCode(t, "", " ", "#", "# T 2026 319 120000", "T", "T 2026", "T 2026 319", "T 2026 319 # 120000", "T 2026 # 319 120000", "T 2026 319 120000 0 0", "T 2026 319 120000 0 9", "T 2026 319 120000 9 0", "T T 2026 319 120000", "T 2026 319 120000 0 0 0 0")
	checkNoCode(t, "t 2026 319 120000", "X 2026 319 120000", "TT 2026 319 120000", "T2026 319 120000", "T2026 319 120000 0", "T: 2026 319 120000", "Т 2026 319 120000", "2026 319 120000", "2026 T 319 120000", "2026 319 120000 T", "2026 319 120000 0", "\ufeffT 2026 319 120000", "T, 2026, 319, 120000")
	checkNoCode(t, "T 2026 319 120000\n", "T 2026 319 120000\r", "T 2026 319 120000\r\n", "T 2026 319 120000\x00", "T\v2026 319 120000", "T 2026 319\n120000", "T 2026 319 120000 \n", "T 2026 319 120000 0\n", "T-2026-319-120000", "T 2026 319 120000#", "T 2026 319 120000# 0", "T 2026 319 120000 0#")
}

func TestCodeOfQuotedWords(t *testing.T) {
	parts := []string{"T", "2026", "319", "120000", "0"}
	for _, count := range []int{4, 5} {
		checkCode(t, strings.Join(parts[:count], " "), noon, api.OK)
		for i := range count {
			some := append([]string(nil), parts[:count]...)
			some[i] = words.Quote(some[i])
			checkNoCode(t, strings.Join(some, " "))
		}
	}
	checkNoCode(t, `"T 2026 319 120000"`, `T 2026 319 120000 ""`, `T 2026 319 "120000" 9`, `T 2026 319 120000 "9"`, `T "" 2026 319 120000`)
}

func TestCodeOfWrongBytes(t *testing.T) {
	line := "T 2026 319 120000 0 # x"
	checkCode(t, line, noon, api.OK)
	for i := range len(line) + 1 {
		for _, b := range []string{"\x80", "\xff", "\xc3", "\xed\xa0\x80", "\xc0\xb0"} {
			checkNoCode(t, line[:i]+b+line[i:])
		}
	}
	checkNoCode(t, "T 2026 319 120000 \"", "T 2026 319 120000 \"0", "T 2026 319 120000\"", "T 2026 319 12\"0000", "T 2026 319 120000 \"0\"9")
}

func TestCodeOfYears(t *testing.T) {
	checkNoCode(t, "T 0 319 120000", "T 26 319 120000", "T 202 319 120000", "T 026 319 120000", "T 20260 319 120000", "T 02026 319 120000", "T +026 319 120000", "T -026 319 120000", "T 2o26 319 120000", "T 202a 319 120000", "T a026 319 120000", "T ٢٠٢٦ 319 120000", "T ٢٢ 319 120000", "T 2026. 319 120000", "T /026 319 120000", "T 202: 319 120000")
	for year := range 10000 {
		for _, day := range []int{0, 1, 31, 59, 60, 61, 365, 366, 367, 999} {
			line := fmt.Sprintf("T %04d %03d 000000", year, day)
			date := time.Date(year, 1, day, 0, 0, 0, 0, time.UTC)
			if year < 1900 || date.Year() != year {
				checkCodeTellsNone(t, line, line+" 0", line+" 9")
				continue
			}
			want := api.Time(date.Unix()+since1900) * api.Second
			checkCode(t, line, want, api.OK)
			checkCode(t, line[:len(line)-6]+"235959 1", want+86399*api.Second, api.OK)
		}
	}
	checkCode(t, "T 1900 001 000000", 0, api.OK)
	checkCode(t, "T 1900 365 000000", 364*86400*api.Second, api.OK)
	checkCode(t, "T 9999 365 235959", (2958464*86400-1)*api.Second, api.OK)
	checkCodeTellsNone(t, "T 1899 001 000000", "T 1899 365 235959", "T 1900 000 000000", "T 1900 366 000000", "T 9999 366 000000", "T 9999 999 000000", "T 9999 000 000000", "T 0000 001 000000", "T 0000 000 000000", "T 1899 366 000000")
}

func TestCodeOfDays(t *testing.T) {
	for _, year := range []int{1900, 1904, 1999, 2000, 2024, 2026, 2100, 2400, 9996, 9999} {
		isLeap := year%4 == 0 && year%100 != 0 || year%400 == 0
		first, _ := at(year, 1, 1, 12, 34, 56)
		for day := range 1000 {
			line := fmt.Sprintf("T %d %03d 123456", year, day)
			if day >= 1 && (day <= 365 || day == 366 && isLeap) {
				checkCode(t, line, first+api.Time(day-1)*86400*api.Second, api.OK)
			} else {
				checkCodeTellsNone(t, line)
			}
		}
	}
	checkCode(t, "T 2024 366 000000", 45655*86400*api.Second, api.OK)
	checkCodeTellsNone(t, "T 2024 367 000000", "T 2024 000 000000", "T 2023 366 000000", "T 2100 366 000000")
	checkNoCode(t, "T 2026 1 120000", "T 2026 01 120000", "T 2026 19 120000", "T 2026 0319 120000", "T 2026 3190 120000", "T 2026 +19 120000", "T 2026 -19 120000", "T 2026 31a 120000", "T 2026 a19 120000", "T 2026 3.9 120000", "T 2026 ٣١٩ 120000", "T 2026 ٣1 120000", "T 2026 31/ 120000", "T 2026 :19 120000")
}

func TestCodeOfClocks(t *testing.T) {
	for hour := range 27 {
		for minute := range 63 {
			for second := range 63 {
				line := fmt.Sprintf("T 2026 319 %02d%02d%02d", hour, minute, second)
				if x, ok := at(2026, 11, 15, hour, minute, second); ok {
					checkCode(t, line, x, api.OK)
				} else {
					checkCodeTellsNone(t, line)
				}
			}
		}
	}
	checkCodeTellsNone(t, "T 2026 319 240000", "T 2026 319 126000", "T 2026 319 120060", "T 2016 366 235960", "T 2026 319 999999", "T 2026 319 235960 0", "T 2026 319 990000 9")
	checkNoCode(t, "T 2026 319 1", "T 2026 319 12000", "T 2026 319 1200000", "T 2026 319 0120000", "T 2026 319 1200", "T 2026 319 120000.", "T 2026 319 120000.5", "T 2026 319 12000.", "T 2026 319 1200.5", "T 2026 319 12:00:00", "T 2026 319 -20000", "T 2026 319 +20000", "T 2026 319 12000a", "T 2026 319 a20000", "T 2026 319 ١٢٠", "T 2026 319 1200٠", "T 2026 319 12 00 00", "T 2026 319 12000/", "T 2026 319 12000:")
}

func TestCodeOfQualities(t *testing.T) {
	for quality := range 9 {
		checkCode(t, fmt.Sprintf("T 2026 319 120000 %d", quality), noon, api.OK)
		checkCodeTellsNone(t, fmt.Sprintf("T 2026 366 120000 %d", quality))
	}
	checkCodeTellsNone(t, "T 2026 319 120000 9", "T 2026 366 120000 9", "T 2026 319 240000 9")
	checkNoCode(t, "T 2026 319 120000 10", "T 2026 319 120000 00", "T 2026 319 120000 09", "T 2026 319 120000 99", "T 2026 319 120000 -1", "T 2026 319 120000 -", "T 2026 319 120000 +9", "T 2026 319 120000 a", "T 2026 319 120000 A", "T 2026 319 120000 .", "T 2026 319 120000 /", "T 2026 319 120000 :", "T 2026 319 120000 ٩", "T 2026 319 120000 é", "T 2026 319 120000 9.")
	// What is no code line is told ahead of what tells no time.
	checkNoCode(t, "T 2026 366 120000 10", "T 2026 366 12000 9", "T 1899 19 120000", "T 2026 19 120000 9", "T 2026 319 240000 x")
}

var codeForm = regexp.MustCompile(`^T ([0-9]{4}) ([0-9]{3}) ([0-9]{2})([0-9]{2})([0-9]{2})( [0-9])?$`)

// wantedCode is Code by the chapter's words, in another form.
func wantedCode(line string) (api.Time, api.Errno) {
	list, fault := words.Split(line)
	if fault != (api.Fault{}) {
		return 0, api.ErrText
	}
	var texts []string
	for _, w := range list {
		if w.Quoted {
			return 0, api.ErrText
		}
		texts = append(texts, w.Text)
	}
	parts := codeForm.FindStringSubmatch(strings.Join(texts, " "))
	if parts == nil {
		return 0, api.ErrText
	}
	year, day := number(parts[1]), number(parts[2])
	isLeap := year%4 == 0 && year%100 != 0 || year%400 == 0
	if day == 0 || day > 366 || day == 366 && !isLeap || parts[6] == " 9" {
		return 0, api.ErrNone
	}
	date := time.Date(year, 1, 1, 0, 0, 0, 0, time.UTC).AddDate(0, 0, day-1)
	x, ok := at(year, int(date.Month()), date.Day(), number(parts[3]), number(parts[4]), number(parts[5]))
	if !ok {
		return 0, api.ErrNone
	}
	return x, api.OK
}

func checkCodeByWords(t *testing.T, line string) {
	t.Helper()
	want, wantErrno := wantedCode(line)
	checkCode(t, line, want, wantErrno)
}

func TestCodeOfLinesThatAreTurned(t *testing.T) {
	for _, line := range []string{"T 2026 319 120000", "T 2024 366 235959 8", "\tT 1900  001 000000 0 # x", "T 2026 319 120000 9", "T 9999 365 235959", `"T" 2026 319 120000`} {
		turned(line, func(line string) { checkCodeByWords(t, line) })
	}
}

func TestCodeOfRandomLines(t *testing.T) {
	r := rand.New(rand.NewSource(132))
	for range 200000 {
		year, day, clock := strconv.Itoa(1890+r.Intn(8200)), fmt.Sprintf("%03d", r.Intn(380)), fmt.Sprintf("%02d%02d%02d", r.Intn(25), r.Intn(61), r.Intn(61))
		parts := []string{"T", year, day, clock, strconv.Itoa(r.Intn(11)), "#", `"9"`, "0"}
		parts = parts[:4+r.Intn(3)*r.Intn(2)+r.Intn(2)]
		if r.Intn(4) == 0 {
			i, j := r.Intn(len(parts)), r.Intn(len(parts))
			parts[i], parts[j] = parts[j], parts[i]
		}
		checkCodeByWords(t, strings.Join(parts, strings.Repeat(" ", 1+r.Intn(2))))
	}
}
