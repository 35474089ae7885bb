package radio

import (
	"fmt"
	"math/rand"
	"regexp"
	"strconv"
	"strings"
	"testing"
	"time"

	"sundial/api"
)

const (
	// noon is that of November 15th, 2026.
	noon = (46339*86400 + 43200) * api.Second

	// since1900 is the seconds from the beginning of 1900 to that of 1970.
	since1900 = 2208988800
)

// at is a time by another calendar. False: there is no such one.
func at(year, month, day, hour, minute, second int) (api.Time, bool) {
	d := time.Date(year, time.Month(month), day, hour, minute, second, 0, time.UTC)
	isDay := d.Year() == year && int(d.Month()) == month && d.Day() == day
	isTime := d.Hour() == hour && d.Minute() == minute && d.Second() == second
	return api.Time(d.Unix()+since1900) * api.Second, isDay && isTime && year >= 1900 && year <= 9999
}

// xor is a body's sum, as two digits of the base sixteen.
func xor(body string) string {
	var sum byte
	for _, b := range []byte(body) {
		sum ^= b
	}
	return fmt.Sprintf("%02X", sum)
}

// withSum is the line of a body, with its own sum.
func withSum(body string) string { return "$" + body + "*" + xor(body) }

// rmc is the body of a line that tells a clock and a date.
func rmc(clock, date string) string { return "GPRMC," + clock + ",A,,,,,,," + date }

func checkNMEA(t *testing.T, line string, want api.Time, wantErrno api.Errno) {
	t.Helper()
	if x, errno := NMEA(line); x != want || errno != wantErrno {
		t.Fatalf("NMEA(%.300q) = %d, %v; want %d, %v", line, x, errno, want, wantErrno)
	}
}

// checkBody holds what NMEA answers to the line of a body, with its own sum.
func checkBody(t *testing.T, body string, want api.Time) {
	t.Helper()
	checkNMEA(t, withSum(body), want, api.OK)
}

func checkNoTime(t *testing.T, bodies ...string) {
	t.Helper()
	for _, body := range bodies {
		checkNMEA(t, withSum(body), 0, api.ErrNone)
	}
}

func checkNoLine(t *testing.T, lines ...string) {
	t.Helper()
	for _, line := range lines {
		checkNMEA(t, line, 0, api.ErrText)
	}
}

// P13.1: the chapter's example, but for its sum. It is written with *4E there, and the xor of its body's bytes is 3E.
func TestNMEAOfTheExample(t *testing.T) {
	checkNMEA(t, "$GPRMC,120000.5,A,,,,,,,151126*3E", noon+api.Second/2, api.OK)
	checkNMEA(t, "$GPRMC,120000.5,A,,,,,,,151126*4E", 0, api.ErrMac)
	checkNMEA(t, "$GPRMC,120000.5,A,,,,,,,151126*00", 0, api.ErrMac)
	checkNoTime(t, "GPRMC,120000.5,V,,,,,,,151126")
	checkNoLine(t, "GPRMC,120000.5,A,,,,,,,151126*3E")
}

func TestNMEAOfWhatReceiversTell(t *testing.T) {
	checkNMEA(t, "$GPRMC,123519,A,4807.038,N,01131.000,E,022.4,084.4,230394,003.1,W*6A", 34414*86400*api.Second+(12*3600+35*60+19)*api.Second, api.OK)
	checkNMEA(t, "$GPRMC,081836,A,3751.65,S,14507.36,E,000.0,360.0,130998,011.3,E*62", 36049*86400*api.Second+(8*3600+18*60+36)*api.Second, api.OK)
	checkNMEA(t, "$GPGGA,123519,4807.038,N,01131.000,E,1,08,0.9,545.4,M,46.9,M,,*47", 0, api.ErrNone)
}

func TestNMEAOfWhatIsNoLine(t *testing.T) {
	good := withSum(rmc("120000", "151126"))
	checkNMEA(t, good, noon, api.OK)
	front := good[:len(good)-3]
	checkNoLine(t, "", "$", "*", "$*", "$*0", "*00", "$00", "00", "$$*00", "$**00", "$*000", "$*00*00", "$$*24")
	checkNoLine(t, good[1:], " "+good, "$"+good, "x"+good, "\ufeff"+good, good[1:]+"$")
	checkNoLine(t, front, front+"*", strings.Replace(good, "*", "", 1), strings.Replace(good, "*", "**", 1), strings.Replace(good, "*", "#", 1))
	checkNoLine(t, good[:len(good)-1], good+"0", good+" ", good+"\n", good+"\r", good+"\r\n", good+"\x00", good+"*", good+good)
	checkNoLine(t, front+"*g0", front+"*0G", front+"*:0", front+"*0:", front+"*@0", front+"*0/", front+"* 6", front+"*+6", front+"*-1", front+"*é", front+"*\xff\xff")
}

// The body ends at the first *: what stands behind a second one is no sum.
func TestNMEAOfSignsInTheBody(t *testing.T) {
	for _, sign := range []string{"$", "*", "\x00", "\x01", "\t", "\n", "\r", "\x1f", "\x7f", "\x80", "\xff", "é", "\u2028", "\U0001F30D", "\ufffd"} {
		for _, body := range []string{sign, "GPRMC" + sign, rmc("120000", "151126") + "," + sign, sign + rmc("120000", "151126"), "GPRMC,120000,A," + sign + ",,,,,,151126", "GPRMC,120000" + sign + ",A,,,,,,,151126"} {
			checkNoLine(t, withSum(body), "$"+body+"*00")
		}
	}
	// All of them that may stand there do.
	for b := byte(32); b < 127; b++ {
		if b != '$' && b != '*' {
			checkBody(t, rmc("120000", "151126")+","+string(rune(b)), noon)
		}
	}
	checkBody(t, rmc("120000", "151126")+", ~", noon)
}

func TestNMEAOfABodyWithNoBytes(t *testing.T) {
	checkNMEA(t, "$*00", 0, api.ErrNone)
	checkNMEA(t, "$*01", 0, api.ErrMac)
	checkNMEA(t, "$*F0", 0, api.ErrMac)
}

func TestNMEAOfEverySum(t *testing.T) {
	for _, body := range []string{"", "GPRMC", rmc("120000", "151126"), rmc("120000.5", "151126"), "GPRMC,120000,V,,,,,,,151126"} {
		for sum := range 256 {
			line := fmt.Sprintf("$%s*%02X", body, sum)
			wantTime, want := api.Time(0), api.ErrMac
			if line == withSum(body) {
				wantTime, want = wantedNMEA(line)
			}
			checkNMEA(t, line, wantTime, want)
			if small := fmt.Sprintf("$%s*%02x", body, sum); small != line {
				checkNoLine(t, small)
			}
		}
	}
	// A small letter is refused in each of the two places, be the sum right but for it or not.
	checkNoLine(t, "$GPRMC,120000.5,A,,,,,,,151126*3e", "$GPRMC,120000.5,A,,,,,,,151126*a0", "$*0a", "$*f0", "$z*7a")
	checkNMEA(t, "$z*7A", 0, api.ErrNone)
}

// A wrong sum is told ahead of what the line tells, and no line ahead of it.
func TestNMEAsOrderOfErrors(t *testing.T) {
	for _, body := range []string{"", "GPGGA", "GPRMC,120000,V,,,,,,,151126", "GPRMC,999999,A,,,,,,,999999"} {
		checkNMEA(t, "$"+body+"*FF", 0, api.ErrMac)
		checkNoLine(t, "$"+body+"\x7f*FF", "$"+body+"$*FF", "$"+body+"*FF ")
	}
}

func TestNMEAOfFields(t *testing.T) {
	for commas := range 20 {
		body := "GPRMC,120000,A" + strings.Repeat(",", commas) + "151126"
		if commas == 7 {
			checkBody(t, body, noon)
		} else {
			checkNoTime(t, body)
		}
		if commas < 7 {
			checkNoTime(t, "GPRMC,120000,A"+strings.Repeat(",151126", commas))
		} else {
			checkBody(t, "GPRMC,120000,A"+strings.Repeat(",151126", commas), noon)
		}
	}
	// Nothing hangs on fields 3 to 8, nor on those behind 9.
	checkBody(t, "GPRMC,120000,A,a,V,120000, ,.,999999,151126", noon)
	checkBody(t, rmc("120000", "151126")+",", noon)
	checkBody(t, rmc("120000", "151126")+",,,,,,,,,,161226,V", noon)
	checkBody(t, rmc("120000", "151126")+strings.Repeat(",V", 100000), noon)
	checkNoTime(t, "", ",,,,,,,,,", "GPRMC", "GPRMC,120000,A", rmc("120000", ""), rmc("", "151126"), rmc("", ""), " "+rmc("120000", "151126"), ","+rmc("120000", "151126"))
}

func TestNMEAOfKinds(t *testing.T) {
	rest := strings.TrimPrefix(rmc("120000", "151126"), "GPRMC")
	for _, kind := range []string{"GPRMC", "GNRMC", "RMRMC", "  RMC", "rmRMC", "00RMC", "..RMC", "~!RMC"} {
		checkBody(t, kind+rest, noon)
	}
	for _, kind := range []string{"", "RMC", "PRMC", "GPSRMC", "GPRMCA", "RMCGP", "GRMCP", "GPRM", "GPRMc", "GPrmc", "GPGGA", "GPRMD", "GPRNC", "GPSMC", "GPR C", "GPRMC ", " GPRMC"} {
		checkNoTime(t, kind+rest)
	}
}

func TestNMEAOfStatuses(t *testing.T) {
	for b := byte(32); b < 127; b++ {
		if b != '$' && b != '*' && b != 'A' && b != ',' {
			checkNoTime(t, "GPRMC,120000,"+string(rune(b))+",,,,,,,151126")
		}
	}
	for _, status := range []string{"", "V", "AA", "a", " A", "A ", "AV", "VA"} {
		checkNoTime(t, "GPRMC,120000,"+status+",,,,,,,151126")
	}
}

func TestNMEAOfClocks(t *testing.T) {
	for hour := range 27 {
		for minute := range 63 {
			for second := range 63 {
				body := rmc(fmt.Sprintf("%02d%02d%02d", hour, minute, second), "151126")
				if x, ok := at(2026, 11, 15, hour, minute, second); ok {
					checkBody(t, body, x)
				} else {
					checkNoTime(t, body)
				}
			}
		}
	}
	for _, clock := range []string{
		"", "1", "12000", "1200000", "12000.5", "1200000.5", "240000", "126000", "120060", "235960", "235960.5", "990000", "009900", "000099", "999999",
		"120000.", "120000.1234567", "120000.0000000", "120000..5", "120000.5.", "120000.5.5", "120000,5", "120000:5", "120000 5", "120000-5",
		"120000.a", "120000.5a", "120000.-5", "120000.+5", "120000. 5", "120000.5 ", " 120000", "120000 ", "12000a", "a20000", "12a000", "1200a0",
		"12:00:00", "-10000", "+10000", "12-100", "1200+1", "12 000", "1e0000", "0x0000", "12000/", "12000:", "/20000", ":20000", "1200.5", "12000.", ".120000", "12000000", "120000e1", "120000.1e1",
	} {
		checkNoTime(t, rmc(clock, "151126"))
	}
}

// ticksOf is the ticks of digits behind a point, worked out in millionths.
func ticksOf(digits string) api.Time {
	n, err := strconv.Atoi((digits + "000000")[:6])
	if err != nil {
		panic(err)
	}
	return api.Time(n) << 20 / 1000000
}

func TestNMEAOfFractions(t *testing.T) {
	for digits, ticks := range map[string]api.Time{
		"0": 0, "000000": 0, "5": 524288, "50": 524288, "500000": 524288, "25": 262144, "1": 104857, "9": 943718, "99": 1038090, "999999": 1048574, "99999": 1048565,
		"000001": 1, "000002": 2, "000003": 3, "000010": 10, "000020": 20, "000021": 22, "00001": 10, "00002": 20, "0001": 104, "001": 1048, "01": 10485, "333333": 349524, "666666": 699049, "953674": 999999, "953675": 1000000,
	} {
		checkBody(t, rmc("120000."+digits, "151126"), noon+ticks)
		checkBody(t, rmc("000000."+digits, "010180"), 29219*86400*api.Second+ticks)
		checkBody(t, rmc("235959."+digits, "311279"), (65744*86400-1)*api.Second+ticks)
	}
	for count := 1; count <= 4; count++ {
		for n := range pow10(count) {
			digits := fmt.Sprintf("%0*d", count, n)
			checkBody(t, rmc("120000."+digits, "151126"), noon+ticksOf(digits))
		}
	}
	for n := 0; n < 1000000; n += 7 {
		digits := fmt.Sprintf("%06d", n)
		checkBody(t, rmc("120000."+digits, "151126"), noon+ticksOf(digits))
		checkBody(t, rmc("120000."+digits[:5], "151126"), noon+ticksOf(digits[:5]))
		checkNoTime(t, rmc("120000."+digits+"0", "151126"))
	}
}

func pow10(n int) int {
	if n == 0 {
		return 1
	}
	return 10 * pow10(n-1)
}

func TestNMEAOfDates(t *testing.T) {
	for yy := range 100 {
		year := 2000 + yy
		if yy >= 80 {
			year = 1900 + yy
		}
		for month := range 15 {
			for day := range 34 {
				body := rmc("120000", fmt.Sprintf("%02d%02d%02d", day, month, yy))
				if x, ok := at(year, month, day, 12, 0, 0); ok {
					checkBody(t, body, x)
				} else {
					checkNoTime(t, body)
				}
			}
		}
	}
	for date, want := range map[string]api.Time{"010180": 29219, "311279": 65743, "311299": 36523, "010100": 36524, "290200": 36583, "290296": 35122, "290224": 45349, "311280": 29584, "010179": 65379} {
		checkBody(t, rmc("000000", date), want*86400*api.Second)
	}
	for _, date := range []string{
		"", "1", "15112", "1511260", "5112026", "15112026", "151126 ", " 151126", "15112 ", "1511-6", "-51126", "+51126", "15 126", "a51126", "15a126", "15112a", "15/126", "151:26", "1511.6",
		"000126", "010026", "320126", "300226", "290226", "290200a", "290225", "290281", "310426", "310626", "310926", "311126", "011326", "019926", "990126", "999999", "000000", "151126.", "151126.5",
	} {
		checkNoTime(t, rmc("120000", date))
	}
}

var (
	nmeaForm  = regexp.MustCompile(`^\$([ -#%-)+-~]*)\*([0-9A-F]{2})$`)
	clockForm = regexp.MustCompile(`^([0-9]{2})([0-9]{2})([0-9]{2})(\.([0-9]{1,6}))?$`)
	dateForm  = regexp.MustCompile(`^([0-9]{2})([0-9]{2})([0-9]{2})$`)
)

// wantedNMEA is NMEA by the chapter's words, in another form.
func wantedNMEA(line string) (api.Time, api.Errno) {
	parts := nmeaForm.FindStringSubmatch(line)
	if parts == nil {
		return 0, api.ErrText
	}
	if parts[2] != xor(parts[1]) {
		return 0, api.ErrMac
	}
	fields := strings.Split(parts[1], ",")
	if len(fields) < 10 || len(fields[0]) != 5 || fields[0][2:] != "RMC" || fields[2] != "A" {
		return 0, api.ErrNone
	}
	clock, date := clockForm.FindStringSubmatch(fields[1]), dateForm.FindStringSubmatch(fields[9])
	if clock == nil || date == nil {
		return 0, api.ErrNone
	}
	year := 2000 + number(date[3])
	if date[3][0] >= '8' {
		year -= 100
	}
	x, ok := at(year, number(date[2]), number(date[1]), number(clock[1]), number(clock[2]), number(clock[3]))
	if !ok {
		return 0, api.ErrNone
	}
	return x + ticksOf(clock[5]), api.OK
}

func number(digits string) int {
	n, err := strconv.Atoi(digits)
	if err != nil {
		panic(err)
	}
	return n
}

func checkNMEAByWords(t *testing.T, line string) {
	t.Helper()
	want, wantErrno := wantedNMEA(line)
	checkNMEA(t, line, want, wantErrno)
}

// turned hands on s with each of its bytes left out, turned into each other one, and each byte laid in.
func turned(s string, with func(s string)) {
	for i := range len(s) + 1 {
		for b := range 256 {
			with(s[:i] + string([]byte{byte(b)}) + s[i:])
			if i < len(s) {
				with(s[:i] + string([]byte{byte(b)}) + s[i+1:])
			}
		}
		if i < len(s) {
			with(s[:i] + s[i+1:])
		}
	}
}

func TestNMEAOfLinesThatAreTurned(t *testing.T) {
	for _, body := range []string{"", "GPRMC", rmc("120000", "151126"), rmc("235959.999999", "290280") + ",1,W", "GNRMC,000000.1,A,1.5,N,2,E,3,4,010100,,"} {
		turned(withSum(body), func(line string) { checkNMEAByWords(t, line) })
		turned(body, func(body string) { checkNMEAByWords(t, withSum(body)) })
	}
}

func TestNMEAOfRandomLines(t *testing.T) {
	r := rand.New(rand.NewSource(131))
	pieces := []string{"GPRMC", "RMC", ",", ",", ",", ",,", ",,,,,,", "A", "V", "120000", "235959", "000000", ".", ".5", "151126", "290200", "0", "9", "7F", "$", "*", "*00", " ", "~", "\x7f", "é"}
	for range 100000 {
		var body strings.Builder
		for range r.Intn(14) {
			body.WriteString(pieces[r.Intn(len(pieces))])
		}
		checkNMEAByWords(t, body.String())
		checkNMEAByWords(t, withSum(body.String()))
		fields := make([]string, 8+r.Intn(5))
		for i := range fields {
			fields[i] = pieces[r.Intn(len(pieces))]
		}
		fields[0], fields[1], fields[2] = pieces[r.Intn(2)], fmt.Sprintf("%06d.%d", r.Intn(250000), r.Intn(10000000)), pieces[7+r.Intn(2)]
		fields[len(fields)-1-r.Intn(3)] = fmt.Sprintf("%06d", r.Intn(400000))
		checkNMEAByWords(t, withSum(strings.Join(fields, ",")))
	}
}
