package words

import (
	"math/big"
	"math/rand"
	"regexp"
	"strconv"
	"strings"
	"testing"

	"sundial/api"
)

func checkNumber(t *testing.T, s string, want int) {
	t.Helper()
	if n, errno := Number(s); n != want || errno != api.OK {
		t.Errorf("Number(%q) = %d, %v; want %d", s, n, errno, want)
	}
}

func checkNoNumber(t *testing.T, s string) {
	t.Helper()
	if n, errno := Number(s); n != 0 || errno != api.ErrText {
		t.Errorf("Number(%q) = %d, %v; want 0, %v", s, n, errno, api.ErrText)
	}
}

func checkSeconds(t *testing.T, s string, want api.Time) {
	t.Helper()
	if x, errno := Seconds(s); x != want || errno != api.OK {
		t.Errorf("Seconds(%q) = %d, %v; want %d", s, x, errno, want)
	}
}

func checkNoSeconds(t *testing.T, s string) {
	t.Helper()
	if x, errno := Seconds(s); x != 0 || errno != api.ErrText {
		t.Errorf("Seconds(%q) = %d, %v; want 0, %v", s, x, errno, api.ErrText)
	}
}

// P7.4
func TestNumberOfTheExamples(t *testing.T) {
	checkNumber(t, "0", 0)
	checkNumber(t, "4294967295", 4294967295)
	for _, s := range []string{"007", "+1", "", "12345678901"} {
		checkNoNumber(t, s)
	}
}

func TestNumberOfEveryLength(t *testing.T) {
	power := 1
	for n := 1; n <= 10; n++ {
		checkNumber(t, strconv.Itoa(power), power)
		checkNumber(t, strconv.Itoa(10*power-1), 10*power-1)
		checkNumber(t, "1234567890"[:n], 1234567890/pow10(10-n))
		checkNumber(t, strings.Repeat("9", n), 10*power-1)
		power *= 10
	}
	for _, n := range []int{2147483647, 2147483648, 4294967295, 4294967296, 4294967297, 8589934592, 9999999998, 9999999999} {
		checkNumber(t, strconv.Itoa(n), n)
	}
	for n := 11; n <= 40; n++ {
		checkNoNumber(t, strings.Repeat("9", n))
		checkNoNumber(t, "1"+strings.Repeat("0", n-1))
	}
	checkNoNumber(t, strings.Repeat("1", 1<<20))
	for n := range 20000 {
		checkNumber(t, strconv.Itoa(n), n)
		checkNoNumber(t, "0"+strconv.Itoa(n))
		checkNoNumber(t, "-"+strconv.Itoa(n))
	}
}

func pow10(n int) int {
	x := 1
	for range n {
		x *= 10
	}
	return x
}

// besideNumbers are texts that are whole numbers elsewhere, or but for one character.
var besideNumbers = []string{
	"00", "01", "000", "0000000000", "0123456789", "00000000001", "0x1", "0b1", "0o7", "1e3", "1E3", "1_000", "1,000", "1'000", "1 000", "0 ", " 0", " 1", "1 ", "1\t", "\t1", "\n1", "1\n", "1\r", "\u00a01", "1\u00a0", "1\u3000",
	"+0", "+1", "+", "++1", "1-", "1+", "a", "1a", "a1", "x", "NaN", "Inf", "١", "٣", "1٣", "１", "²", "½", "Ⅳ", "\x00", "1\x00", "\x001", "\xff", "1\xff", "\ufffd", "/", ":", "1/", "1:", "/1", ":1", `"1"`, "0x", "#1", "é", "999999999é",
}

func TestNumberRefusesOtherTexts(t *testing.T) {
	for _, s := range besideNumbers {
		checkNoNumber(t, s)
	}
	for _, s := range []string{"-", "-0", "-1", "--1", "1.", "1.0", ".5", "0.5", "1.5"} {
		checkNoNumber(t, s)
	}
	for r := range rune(0x3000) {
		if r < '0' || r > '9' {
			checkNoNumber(t, string(r))
			checkNoNumber(t, string(r)+"1")
			checkNoNumber(t, "1"+string(r))
			checkNoNumber(t, "1"+string(r)+"1")
		}
	}
}

func TestSecondsOfTheExamples(t *testing.T) {
	checkSeconds(t, "1", 1048576)
	checkSeconds(t, "-0.5", -524288)
	checkSeconds(t, "0.000001", 1)
	checkSeconds(t, "-0.000001", -2)
	checkSeconds(t, "1.5", 1572864)
	for _, s := range []string{"1.", ".5", "1.0000000"} {
		checkNoSeconds(t, s)
	}
}

func TestSecondsOfEdges(t *testing.T) {
	for _, s := range []string{"0", "-0", "0.0", "-0.0", "0.000000", "-0.000000"} {
		checkSeconds(t, s, 0)
	}
	checkSeconds(t, "-1", -1048576)
	checkSeconds(t, "1.0", 1048576)
	checkSeconds(t, "-1.000000", -1048576)
	checkSeconds(t, "0.1", 104857)
	checkSeconds(t, "-0.1", -104858)
	checkSeconds(t, "0.10", 104857)
	checkSeconds(t, "0.01", 10485)
	checkSeconds(t, "0.001", 1048)
	checkSeconds(t, "-0.001", -1049)
	checkSeconds(t, "0.000010", 10)
	checkSeconds(t, "0.999999", 1048574)
	checkSeconds(t, "-0.999999", -1048575)
	checkSeconds(t, "1.000001", 1048577)
	checkSeconds(t, "-1.000001", -1048578)
	// A part of a second that is a whole number of ticks isn't rounded.
	checkSeconds(t, "0.015625", 16384)
	checkSeconds(t, "-0.015625", -16384)
	checkSeconds(t, "-3.984375", -3*1048576-1032192)
	// The greatest and the least.
	checkSeconds(t, "9999999999", 9999999999*1048576)
	checkSeconds(t, "-9999999999", -9999999999*1048576)
	checkSeconds(t, "9999999999.999999", 9999999999*1048576+1048574)
	checkSeconds(t, "-9999999999.999999", -9999999999*1048576-1048575)
	checkSeconds(t, "4294967296.000001", 4294967296*1048576+1)
	checkSeconds(t, "-2147483648.5", -2147483648*1048576-524288)
}

func TestSecondsRefusesOtherTexts(t *testing.T) {
	for _, s := range besideNumbers {
		checkNoSeconds(t, s)
		checkNoSeconds(t, "-"+s)
		checkNoSeconds(t, s+".5")
		checkNoSeconds(t, "-"+s+".5")
	}
	for _, s := range []string{
		"", "-", ".", "-.", "-.5", "-1.", "0.", "-0.", "--1", "-+1", "+-1", "- 1", "-00", "-01", "-01.5", "01.5", "00.5", "1-", "1.-5", "1.+5", "1.5-", "1..5", "1.5.", "1.5.5", "..5", "1. 5", "1 .5", "1.5 ", " 1.5", "1,5", "1.5e3", "1.a", "1.5a", "1.٣", "1.５", "1.0x1", "1.\xff", "1.5\x00", "1.5\n", "1·5", "1．5", "−1",
		"0.0000000", "-0.0000000", "1.1234567", "0.5000000", "1." + strings.Repeat("0", 1<<16),
		"10000000000", "-10000000000", "12345678901", "12345678901.5", "-12345678901.5", "99999999999.999999",
	} {
		checkNoSeconds(t, s)
	}
	for r := range rune(0x3000) {
		if r < '0' || r > '9' {
			checkNoSeconds(t, "1."+string(r))
			checkNoSeconds(t, "-1.5"+string(r))
			checkNoSeconds(t, "1."+string(r)+"5")
		}
	}
}

var (
	wholeText   = regexp.MustCompile(`^(0|[1-9][0-9]{0,9})$`)
	secondsText = regexp.MustCompile(`^-?(0|[1-9][0-9]{0,9})(\.[0-9]{1,6})?$`)
)

// floorTicks is the greatest number of ticks that is not above the seconds s, worked out in whole numbers of any size.
func floorTicks(t *testing.T, s string) api.Time {
	t.Helper()
	exact, ok := new(big.Rat).SetString(s)
	if !ok {
		t.Fatal(s)
	}
	exact.Mul(exact, big.NewRat(1048576, 1))
	// Euclid's division by what is above nought rounds down.
	return api.Time(new(big.Int).Div(exact.Num(), exact.Denom()).Int64())
}

func checkByOtherMeans(t *testing.T, s string) {
	t.Helper()
	if wholeText.MatchString(s) {
		want, err := strconv.Atoi(s)
		if err != nil {
			t.Fatal(err)
		}
		checkNumber(t, s, want)
	} else {
		checkNoNumber(t, s)
	}
	if secondsText.MatchString(s) {
		checkSeconds(t, s, floorTicks(t, s))
	} else {
		checkNoSeconds(t, s)
	}
}

func TestNumbersOfEveryShortText(t *testing.T) {
	eachText([]string{"0", "1", "9", ".", "-", "a"}, 6, func(s string) { checkByOtherMeans(t, s) })
	eachText([]string{"0", "5"}, 13, func(s string) { checkByOtherMeans(t, s) })
	eachText([]string{"0", "5"}, 8, func(s string) {
		checkByOtherMeans(t, "7."+s)
		checkByOtherMeans(t, "-0."+s)
	})
}

func TestNumbersOfRandomTexts(t *testing.T) {
	r := rand.New(rand.NewSource(75))
	for range 60000 {
		s := ""
		if r.Intn(2) == 0 {
			s = "-"
		}
		s += strconv.Itoa(r.Intn(pow10(1 + r.Intn(11))))
		if r.Intn(4) > 0 {
			s += "."
			for range r.Intn(8) {
				s += strconv.Itoa(r.Intn(10))
			}
		}
		checkByOtherMeans(t, s)
	}
}

// Every millionth of a second, above nought and below it.
func TestSecondsOfEveryMillionth(t *testing.T) {
	for n := range 1000000 {
		s := strconv.Itoa(1000000 + n)[1:]
		ticks := api.Time(n) * 1048576
		if x, errno := Seconds("3." + s); x != 3*1048576+ticks/1000000 || errno != api.OK {
			t.Fatalf("Seconds(3.%s) = %d, %v", s, x, errno)
		}
		below := (-4000000*1048576+ticks)/1000000 - 1
		if n%15625 == 0 {
			below++
		}
		if x, errno := Seconds(belowText(n)); x != below || errno != api.OK {
			t.Fatalf("Seconds(%s) = %d, %v; want %d", belowText(n), x, errno, below)
		}
	}
}

// belowText is -4 seconds and n millionths.
func belowText(n int) string {
	left := strconv.Itoa(4000000 - n)
	return "-" + left[:1] + "." + left[1:]
}
