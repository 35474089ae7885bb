package hint

import (
	"crypto/md5"
	"fmt"
	"math"
	"math/rand"
	"regexp"
	"slices"
	"strconv"
	"strings"
	"testing"

	"sundial/api"
)

// fail tells what is wrong, each thing of it cut where it gets long.
func fail(t *testing.T, form string, things ...any) {
	t.Helper()
	for i, thing := range things {
		things[i] = fmt.Sprintf("%.300s", fmt.Sprint(thing))
	}
	t.Fatalf(form, things...)
}

// want fails if a call's answer isn't the one that is awaited.
func want(t *testing.T, what string, got, awaited api.Errno) {
	t.Helper()
	if got != awaited {
		fail(t, "%v: %v; want %v", what, got, awaited)
	}
}

// sumOf is all of a text's sum, of which a hint's text has eight digits.
func sumOf(text string) string { return fmt.Sprintf("%x", md5.Sum([]byte(text))) }

// withSum is a text whose sum is right, whatever stands ahead of it.
func withSum(head string) string { return head + " " + sumOf(head)[:8] + "\n" }

// textOf is the text of a hint, made in another way.
func textOf(freq int) string { return withSum(fmt.Sprintf("drift %d", freq)) }

func checkParse(t *testing.T, b []byte, freq int, errno api.Errno) {
	t.Helper()
	if n, e := Parse(b); n != freq || e != errno {
		fail(t, "Parse(%s) = %v, %v; want %v, %v", strconv.Quote(string(b)), n, e, freq, errno)
	}
}

func checkRefused(t *testing.T, texts ...string) {
	t.Helper()
	for _, text := range texts {
		checkParse(t, []byte(text), 0, api.ErrText)
	}
}

// hints are those at the edges, of every number of digits, and some between.
func hints() []int {
	list := []int{0, 12345, 499999, 500000, 500001, 600000, 999999999, 1000000000}
	for ten := 1; ten <= 100000000; ten *= 10 {
		list = append(list, ten, ten+1, 7*ten, 9*ten, 10*ten-1)
	}
	for _, n := range list {
		list = append(list, -n)
	}
	return list
}

// noHints are numbers that are too great or too small.
func noHints() []int {
	return []int{
		1000000001, -1000000001, 1000000002, 1999999999, 10000000000, -10000000000,
		math.MaxInt32, math.MinInt32, math.MaxInt64, math.MinInt64, math.MaxInt64 - 1, math.MinInt64 + 1, 1 << 32, -1 << 32, 1<<32 + 5, -1<<32 - 5,
	}
}

// clamped is a hint as Parse and Load tell it.
func clamped(freq int) int {
	if freq > 500000 {
		return 500000
	}
	if freq < -500000 {
		return -500000
	}
	return freq
}

// P12.1: a text byte by byte.
func TestTextsByteByByte(t *testing.T) {
	for freq, text := range map[int]string{
		0:           "drift 0 4e66fd55\n",
		7:           "drift 7 948301dc\n",
		-12345:      "drift -12345 fd1cc837\n",
		1000000000:  "drift 1000000000 cd3b45b0\n",
		-1000000000: "drift -1000000000 498a7dfb\n",
	} {
		if got, errno := Text(freq); got != text || errno != api.OK {
			t.Errorf("Text(%d) = %q, %v; want %q", freq, got, errno, text)
		}
	}
}

// P12.1: the text of a hint, and Parse of it.
func TestEveryKindOfHint(t *testing.T) {
	for _, freq := range hints() {
		text, errno := Text(freq)
		want(t, fmt.Sprintf("Text(%d)", freq), errno, api.OK)
		if text != textOf(freq) {
			fail(t, "Text(%v) = %q; want %q", freq, text, textOf(freq))
		}
		checkParse(t, []byte(text), clamped(freq), api.OK)
	}
}

// P12.1: what is above MaxFreq, or below -MaxFreq, is clamped, not what is at it.
func TestParseClamps(t *testing.T) {
	for freq, told := range map[int]int{
		499999: 499999, 500000: 500000, 500001: 500000, 600000: 500000, 1000000000: 500000,
		-499999: -499999, -500000: -500000, -500001: -500000, -600000: -500000, -1000000000: -500000,
	} {
		checkParse(t, []byte(textOf(freq)), told, api.OK)
	}
}

// P12.1: what is no hint has no text.
func TestTextOfNoHint(t *testing.T) {
	for _, freq := range noHints() {
		if text, errno := Text(freq); text != "" || errno != api.ErrRange {
			t.Errorf("Text(%d) = %q, %v; want ErrRange", freq, text, errno)
		}
	}
}

// P12.1: a number beyond a hint is refused, with its right sum, too.
func TestParseOfNoHint(t *testing.T) {
	for _, freq := range noHints() {
		checkRefused(t, textOf(freq))
	}
	for _, number := range []string{
		"9223372036854775808", "-9223372036854775809", "18446744073709551616", "18446744073709551623", "-18446744073709551609",
		"4294967303", "100000000000000000000", "99999999999999999999999999999999999999", strings.Repeat("9", 400), "1" + strings.Repeat("0", 70000),
	} {
		checkRefused(t, withSum("drift "+number))
	}
}

// P12.1: texts that are those of no hint, their sums right where they have one.
func TestParseOfOtherForms(t *testing.T) {
	checkParse(t, nil, 0, api.ErrText)
	checkParse(t, []byte{}, 0, api.ErrText)
	for _, head := range []string{
		"drift 00", "drift 07", "drift -07", "drift 007", "drift 0500000", "drift +0", "drift +7", "drift -0", "drift -00", "drift --7", "drift +-7",
		"drift ", "drift -", "drift +", "drift", "", " ", "drift  7", "drift 7 ", " drift 7", "drift\t7", "drift\u00a07", "drift 7\n", "drift 7\r",
		"drift 7.", "drift 7.0", "drift 7e0", "drift 1e3", "drift 0x7", "drift 0b1", "drift 0o7", "drift 1_000", "drift 1,000", "drift 7 7", "drift 7ppb", "drift seven",
		"drift \u0667", "drift \uff17", "drift \u22127", "drift 7\x00", "drift \x007", "drift 7\xff", "\ufeffdrift 7",
		"Drift 7", "DRIFT 7", "drif 7", "drifts 7", "drift7", "7", "drift.new 7", "drift drift 7", "freq 7", "\u017frift 7",
	} {
		checkRefused(t, withSum(head), head, head+"\n", head+" ", head+" \n")
	}
}

// P12.1: sums that are too short, too long, of capitals, of another text, of the whole line.
func TestParseOfOtherSums(t *testing.T) {
	for _, freq := range hints() {
		head := fmt.Sprintf("drift %d", freq)
		all := sumOf(head)
		if capital := strings.ToUpper(all[:8]); capital != all[:8] {
			checkRefused(t, head+" "+capital+"\n")
		}
		for n := range len(all) + 1 {
			if n != 8 {
				checkRefused(t, head+" "+all[:n]+"\n")
			}
		}
		checkRefused(t,
			head+"  "+all[:8]+"\n", head+"\t"+all[:8]+"\n", head+all[:8]+"\n", head+" "+all[24:]+"\n", head+" 0x"+all[:8]+"\n", head+" 0"+all[:8]+"\n",
			head+" "+sumOf(head + " ")[:8]+"\n", head+" "+sumOf(head + "\n")[:8]+"\n", head+" "+sumOf(strings.TrimPrefix(head, "drift "))[:8]+"\n",
			head+" "+sumOf(fmt.Sprintf("drift %d", freq+1))[:8]+"\n", head+" "+sumOf("")[:8]+"\n", head+" 00000000\n",
		)
	}
}

// P12.1: how a text ends, and what stands at either end of it.
func TestParseOfOtherEnds(t *testing.T) {
	for _, freq := range hints() {
		text := textOf(freq)
		line := text[:len(text)-1]
		checkRefused(t,
			line, line+"\n\n", line+"\r\n", line+"\r", line+" \n", line+"\n ", line+"\x00", line+"\n\x00", line+"\u2028", line+"\u0085",
			text[1:], "\n"+text, " "+text, "\x00"+text, "d"+text, text+text, text+"7", line[:len(line)-1]+"\n",
		)
	}
}

// P12.1: a right text with a byte turned, left out, or laid in, and every piece of it.
func TestParseOfTextsAllButRight(t *testing.T) {
	for _, freq := range []int{0, 7, -7, 10, 500000, -500001, 999999999, 1000000000, -1000000000} {
		text := []byte(textOf(freq))
		for i := range text {
			checkRefused(t, string(text[:i]), string(text[:i])+string(text[i+1:]))
			if i > 0 {
				checkRefused(t, string(text[i:]))
			}
			for b := range 256 {
				if turned := slices.Clone(text); byte(b) != text[i] {
					turned[i] = byte(b)
					checkRefused(t, string(turned))
				}
				checkRefused(t, string(slices.Insert(slices.Clone(text), i, byte(b))))
			}
		}
	}
}

// P12.1: a text of many bytes is refused like any other.
func TestParseOfLongTexts(t *testing.T) {
	for _, piece := range []string{"7", " ", "\n", "drift ", "drift 7 ", textOf(7), "\x00"} {
		for _, n := range []int{27, 28, 29, 1000, 65536, 1 << 20} {
			long := strings.Repeat(piece, n/len(piece)+1)
			checkRefused(t, long, "drift "+long, textOf(7)+long, "drift 7 "+long, long+textOf(7))
		}
	}
}

var textForm = regexp.MustCompile(`\A(drift (0|-?[1-9][0-9]{0,9})) ([0-9a-f]{8})\n\z`)

// parseByForm is Parse in another way.
func parseByForm(b []byte) (int, api.Errno) {
	parts := textForm.FindSubmatch(b)
	if parts == nil {
		return 0, api.ErrText
	}
	freq, err := strconv.ParseInt(string(parts[2]), 10, 64)
	if err != nil || freq > 1e9 || freq < -1e9 || !strings.HasPrefix(sumOf(string(parts[1])), string(parts[3])) {
		return 0, api.ErrText
	}
	return clamped(int(freq)), api.OK
}

func checkByForm(t *testing.T, b []byte) {
	t.Helper()
	freq, errno := parseByForm(b)
	checkParse(t, b, freq, errno)
}

// someHint is a hint of any number of digits.
func someHint(r *rand.Rand) int {
	most := 10
	for range r.Intn(9) {
		most *= 10
	}
	return r.Intn(2*most+1) - most
}

// P12.1: texts that are right, and such as a few changes make of them.
func TestParseOfRandomTexts(t *testing.T) {
	r := rand.New(rand.NewSource(121))
	pieces := []string{" ", "0", "7", "-", "+", "\n", "drift", "a", "F", "\r", "\xff", "1000000000"}
	right := 0
	for range 200000 {
		freq := someHint(r)
		if got, errno := Text(freq); got != textOf(freq) || errno != api.OK {
			fail(t, "Text(%v) = %q, %v; want %q", freq, got, errno, textOf(freq))
		}
		text := textOf(freq)
		for range r.Intn(4) {
			from := r.Intn(len(text) + 1)
			to := from + r.Intn(min(2, len(text)-from)+1)
			text = text[:from] + pieces[r.Intn(len(pieces))] + text[to:]
		}
		if r.Intn(4) == 0 && len(text) > 10 {
			text = withSum(text[:len(text)-10])
		}
		if _, errno := parseByForm([]byte(text)); errno == api.OK {
			right++
		}
		checkByForm(t, []byte(text))
	}
	if right < 20000 || right > 180000 {
		t.Errorf("%d texts of 200000 are right", right)
	}
}

func FuzzParse(f *testing.F) {
	for _, freq := range []int{0, 7, -12345, 600000, 1000000000} {
		f.Add([]byte(textOf(freq)))
	}
	f.Add([]byte("drift 07 00000000\n"))
	f.Fuzz(func(t *testing.T, b []byte) {
		checkByForm(t, b)
		checkByForm(t, []byte(withSum(string(b))))
		checkByForm(t, []byte(withSum("drift "+string(b))))
	})
}
