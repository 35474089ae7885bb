package leap

import (
	"crypto/md5"
	"encoding/hex"
	"math/rand"
	"regexp"
	"strconv"
	"strings"
	"testing"

	"sundial/api"
	"sundial/words"
)

func checkParse(t *testing.T, text string, want api.Leaps) {
	t.Helper()
	if l, fault := Parse(text); !same(l, want) || fault != (api.Fault{}) {
		t.Errorf("Parse(%.300q) = %v, %v; want %v", text, l, fault, want)
	}
}

func checkFault(t *testing.T, text string, want api.Fault) {
	t.Helper()
	if l, fault := Parse(text); l.Changes != nil || l.Expires != 0 || fault != want {
		t.Errorf("Parse(%.300q) = %v, %v; want %v", text, l, fault, want)
	}
}

func wrongLine(line int) api.Fault { return api.Fault{Why: api.ErrText, Line: line} }

func wrongChar(line, char int) api.Fault { return api.Fault{Why: api.ErrText, Line: line, Char: char} }

// sum is the hash line of the numbers, a blank between them.
func sum(numbers string) string {
	digest := md5.Sum([]byte(strings.ReplaceAll(numbers, " ", "")))
	return "#h " + hex.EncodeToString(digest[:])
}

func lines(all ...string) string { return strings.Join(all, "\n") + "\n" }

// The example as a list. The hash is that of another program.
const exampleHash = "0ab65790e06d6d46f620209b04069816"

var exampleLines = []string{"#@ 2300000000", "2272060800 10", "2287785600 11", "#h " + exampleHash}

// P8.2
func TestParseOfTheExample(t *testing.T) {
	checkParse(t, lines(exampleLines...), exampleTable())
	if sum("2300000000 2272060800 10 2287785600 11") != exampleLines[3] {
		t.Errorf("the tests' hash is %s", sum("2300000000 2272060800 10 2287785600 11"))
	}
}

// eachOrder hands to f the lines in each order.
func eachOrder(all []string, f func([]string)) {
	var grow func(n int)
	grow = func(n int) {
		if n == len(all) {
			f(all)
			return
		}
		for i := n; i < len(all); i++ {
			all[n], all[i] = all[i], all[n]
			grow(n + 1)
			all[n], all[i] = all[i], all[n]
		}
	}
	grow(0)
}

// The lines stand in any order. That of the changes is the table's: the hash hangs on it, and the table, too.
func TestParseOfLinesInAnyOrder(t *testing.T) {
	fallen := sum("2300000000 2287785600 11 2272060800 10")
	eachOrder(append([]string{"# a remark", "\t# 1 2", ""}, exampleLines...), func(all []string) {
		text := lines(all...)
		if strings.Index(text, "2272060800") < strings.Index(text, "2287785600") {
			checkParse(t, text, exampleTable())
			checkFault(t, strings.ReplaceAll(text, exampleLines[3], fallen), api.Fault{Why: api.ErrHash})
			return
		}
		checkFault(t, text, api.Fault{Why: api.ErrHash})
		checkFault(t, strings.ReplaceAll(text, exampleLines[3], fallen), api.Fault{Why: api.ErrOrder})
	})
}

func TestParseOfBlanksAndRemarks(t *testing.T) {
	want := api.Leaps{Changes: []api.Change{{At: 0, Offset: 1}}, Expires: seconds(5)}
	digits := strings.TrimPrefix(sum("5 0 1"), "#h ")
	for _, blank := range []string{" ", "\t", "\u00a0", "\u3000", "  ", " \t\u3000\u00a0 "} {
		for _, end := range []string{"", blank, blank + "#", blank + "# a remark", blank + "#@ 6", blank + "#h", blank + `# "`, blank + "##@", blank + "#\ufffd"} {
			checkParse(t, "#@"+blank+"5"+end+"\n0"+blank+"1"+end+"\n#h"+blank+digits+end, want)
			checkParse(t, "#@"+blank+"5"+end+"\r\n"+blank+"0"+blank+"1"+end+"\r\n#h"+blank+digits+end+"\r\n", want)
		}
		// A mark behind a blank is a remark like others.
		checkParse(t, lines(blank+"#@ 7", blank+"#h x", blank+"#", blank, "", "#@ 5", "0 1", blank+"#@", "#h "+digits), want)
	}
	for _, remark := range []string{"#", "##", "# ", "#$ 5", "# @ 5", "# h 5", "##@ 5", "##h 5", "#H 5", "# #@ 5", "#é", "#\ufffd", "#5", "# 1 2", `#"`, `# "a`, `#\`, "#＠ 5", "#\u0000@ 5"} {
		checkParse(t, lines(remark, "#@ 5", remark, "0 1", "#h "+digits, remark), want)
	}
	// Without a byte 10 behind the last line, and with empty lines beside.
	checkParse(t, "\n\n#@ 5\n\n0 1\n\n#h "+digits, want)
	checkParse(t, "#h "+digits+"\n#@ 5\n0 1", want)
	checkParse(t, "#h "+digits+"\n#@ 5\n0 1\r", want)
}

// A whole number is one of layer 7, behind #@ and in a change.
func TestParseOfNumbers(t *testing.T) {
	for _, n := range []int{0, 1, 9, 10, 99, 4294967295, 4294967296, 9999999999} {
		text := strconv.Itoa(n)
		checkParse(t, lines("#@ "+text, "0 1", sum(text+" 0 1")), api.Leaps{Changes: []api.Change{{At: 0, Offset: 1}}, Expires: seconds(n)})
		want := api.Fault{Why: api.ErrOrder}
		if n > 200 {
			checkFault(t, lines("#@ 5", "0 "+text, sum("5 0 "+text)), want)
		} else {
			checkParse(t, lines("#@ 5", "0 "+text, sum("5 0 "+text)), api.Leaps{Changes: []api.Change{{At: 0, Offset: n}}, Expires: seconds(5)})
		}
		if n > 0 {
			checkFault(t, lines("#@ 5", text+" 1", sum("5 "+text+" 1")), want)
		}
	}
	for _, n := range []string{"00", "05", "-1", "-0", "+1", "1.", "1.0", "0x1", "1e3", "10000000000", "12345678901", "99999999999", "00000000001", "a", "1a", "a1", "٣", "１", "5#", "5\v", "é", "\ufffd", ",", "1,2", "'5'", "\\5", "5\r5"} {
		checkFault(t, lines("#@ "+n, "0 1"), wrongLine(1))
		checkFault(t, lines("0 1", "#@ "+n+" # 5"), wrongLine(2))
		checkFault(t, lines("#@ 5", "# x", n+" 1"), wrongLine(3))
		checkFault(t, lines("0 "+n, "#@ 5"), wrongLine(1))
		checkFault(t, lines("#@ 5", "0 1", "0 "+n+" # 5"), wrongLine(3))
	}
}

func TestParseOfWordsTooManyOrTooFew(t *testing.T) {
	for _, line := range []string{
		"#@", "#@ ", "#@\t\u3000", "#@ #", "#@ # 5", "#@ 5 6", "#@ 5 5", "#@ 5 x", "#@ 5 6 # x", `#@ 5 ""`,
		"#h", "#h ", "#h # x", "#h 0123456789abcdef 0123456789abcdef", "#h " + exampleHash + " 0", "#h " + exampleHash + " " + exampleHash, "#h 0 " + exampleHash,
		"1", "0", "2272060800", "1 ", " 1", "1 # 2", "1 2 3", "1 2 3 # x", "0 1 0", "1 2 3 4", "x", "x y", "1 x", "x 1", "2272060800 10 x", "1#2", "1 2# x", "1,2", "1\v2", "1\u20032",
		"@ 5", "h 5", "@", "\\", "\\#@ 5", "x #@ 5", "5 #@ 5", "5 #h " + exampleHash, "\ufeff#@ 5", "\ufeff1 2", "＃@ 5",
	} {
		checkFault(t, line, wrongLine(1))
		checkFault(t, lines("", line, "#@ 5", "0 1", sum("5 0 1")), wrongLine(2))
		checkFault(t, lines("#@ 5", "0 1", sum("5 0 1"), "# x", line, "x"), wrongLine(5))
	}
}

// A quoted word is no whole number, and no hash.
func TestParseOfQuotedWords(t *testing.T) {
	for _, line := range []string{
		`"1" 2`, `1 "2"`, `"1" "2"`, `"1 2"`, `"0" 1`, `0 "1"`, `""`, `"" ""`, `1 2 ""`, `1 ""`, `"#@ 5"`, `"#@" 5`, `"# x"`, `"#"`,
		`#@ "5"`, `#@"5"`, `#@ ""`, `#@ "5" # x`, `#@ "5 6"`, `#h "` + exampleHash + `"`, `#h"` + exampleHash + `"`, `#h ""`,
	} {
		checkFault(t, line, wrongLine(1))
		checkFault(t, lines("# x", line, "#@ 5", "0 1", sum("5 0 1")), wrongLine(2))
	}
}

// Blanks stand between #@ and its number, and #h and its hash; what begins by these is no remark.
func TestParseOfMarksWithoutBlanks(t *testing.T) {
	for _, line := range []string{"#@5", "#@2300000000", "#@0", "#h" + exampleHash, "#hello", "#h0", "#@x", "#@#", "#h#", "#@# 5", "#@@ 5", "#hh " + exampleHash, "#@h 5", "#h@ " + exampleHash, "#@\v5", "#here is a remark"} {
		checkFault(t, line, wrongLine(1))
		checkFault(t, lines("1 2", line), wrongLine(2))
	}
}

func TestParseOfWrongHashLines(t *testing.T) {
	for _, digits := range []string{
		"", "0", exampleHash[:31], exampleHash + "0", exampleHash[:30], exampleHash + exampleHash, exampleHash[:16], strings.ToUpper(exampleHash),
		exampleHash[:31] + "A", exampleHash[:31] + "F", "A" + exampleHash[1:], exampleHash[:31] + "g", exampleHash[:31] + "/", exampleHash[:31] + ":", exampleHash[:31] + "`", exampleHash[:31] + "@", exampleHash[:31] + "G",
		"0x" + exampleHash[2:], "-" + exampleHash[1:], exampleHash[:31] + "é", exampleHash[:30] + "é", exampleHash[:31] + "٣", strings.Repeat("é", 16), strings.Repeat("é", 32), strings.Repeat("٣", 16), strings.Repeat("１", 32), exampleHash[:31] + "#", exampleHash[:31] + "\ufffd", exampleHash[:29] + "\ufffd",
	} {
		checkFault(t, "#h "+digits, wrongLine(1))
		checkFault(t, lines("#@ 5", "0 1", "#h "+digits+" # x", "#h "+exampleHash), wrongLine(3))
	}
}

func TestParseOfWhatStandsTwice(t *testing.T) {
	whole := lines("#@ 5", "0 1", sum("5 0 1"))
	for _, line := range []string{"#@ 5", "#@ 6", "#@\t5 # x", "#@", "#@ x", sum("5 0 1"), sum("6 0 1"), "#h x", "#h " + exampleHash} {
		checkFault(t, whole+line, wrongLine(4))
		checkFault(t, whole+"\n# x\n"+line+"\nx", wrongLine(6))
	}
	checkFault(t, lines("#@ 5", "#@ 5"), wrongLine(2))
	checkFault(t, lines("#@ 0", "#@ 0"), wrongLine(2))
	checkFault(t, lines("#@ 0", "# x", "#@ 1", "x"), wrongLine(3))
	checkFault(t, lines("#h "+exampleHash, "", "#h "+exampleHash), wrongLine(3))
	zero := "#h " + strings.Repeat("0", 32)
	checkFault(t, lines(zero, zero), wrongLine(2))
	// A change may stand there twice, as a line; but the table isn't right then.
	checkFault(t, lines("#@ 5", "0 1", "0 1", sum("5 0 1 0 1")), api.Fault{Why: api.ErrOrder})
}

func TestParseOfFaultsOfLayer7(t *testing.T) {
	for _, r := range []struct {
		line string
		char int
	}{
		{"1 a\"", 3}, {"a\"", 1}, {"\"", 0}, {"1 \"", 2}, {"1 \"2", 2}, {"\"1\"2", 3}, {"1 \"2\\", 2}, {"\xff", 0}, {"1\xff 2", 1}, {"1 2 # \xff", 6}, {"é é\"", 3}, {"\u3000\xff", 1}, {"# \xff", 2}, {"#\xff", 1}, {"#\xff@ 5", 1}, {" #@ \xff", 4}, {"1 2\xc3", 3}, {"1 2 \xe3\x80", 4}, {"\"a\" \"b\"c", 7}, {"1 2 \"", 4},
		{"#@ a\"", 4}, {"#@a\"", 3}, {"#@\"", 2}, {"#@ \"", 3}, {"#@ \"5", 3}, {"#@ \"5\\", 3}, {"#@ \"5\"6", 6}, {"#@\xff", 2}, {"#@ \xff", 3}, {"#@ 5 # \xff", 7}, {"#@ 5 6\"", 6}, {"#@ 5 \"", 5}, {"#@ é\"", 4}, {"#@é\"", 3}, {"#@\u3000\u3000\xff", 4}, {"#@ 5\xe3\x80", 4}, {"#@ x y z\"", 8}, {"#@ # \xff", 5},
		{"#h a\"", 4}, {"#h\"", 2}, {"#h \"", 3}, {"#h \"0", 3}, {"#h \"0\"1", 6}, {"#h\xff", 2}, {"#h \xff", 3}, {"#h 5 # \xff", 7}, {"#h é\"", 4}, {"#h " + exampleHash + "\xff", 35}, {"#h " + exampleHash + " \"", 36}, {"#he is \"", 7}, {"#hé \"é\"é", 7},
	} {
		checkFault(t, r.line, wrongChar(1, r.char))
		checkFault(t, lines("# x", "", r.line), wrongChar(3, r.char))
		checkFault(t, lines("#@ 5", "0 1", sum("5 0 1"), r.line, "x", "\xff"), wrongChar(4, r.char))
	}
}

// Of two faults that of the line ahead is told, and of one line's that of layer 7.
func TestParseOfTwoFaults(t *testing.T) {
	checkFault(t, lines("x", "a\""), wrongLine(1))
	checkFault(t, lines("a\"", "x"), wrongChar(1, 1))
	checkFault(t, lines("", "#@ x", "\xff"), wrongLine(2))
	checkFault(t, lines("", "\xff", "#@ x"), wrongChar(2, 0))
	checkFault(t, lines("#@ 5", "#@ 5", "#h x"), wrongLine(2))
	checkFault(t, lines("#@ 5", "#h x", "#@ 5"), wrongLine(2))
	checkFault(t, lines("#@ 5", "#@ 5 \""), wrongChar(2, 5))
	checkFault(t, lines("#h "+exampleHash, "#h "+exampleHash+"\xff"), wrongChar(2, 35))
	checkFault(t, "1 2 3 a\"", wrongChar(1, 7))
	checkFault(t, "a\" \xff", wrongChar(1, 1))
	checkFault(t, "\xff a\"", wrongChar(1, 0))
	checkFault(t, "#@ a\" \xff", wrongChar(1, 4))
	checkFault(t, "#@ \xff a\"", wrongChar(1, 3))
	checkFault(t, "#h a\" \xff", wrongChar(1, 4))
	checkFault(t, "#h \"0 \xff", wrongChar(1, 6))
	// A line's fault goes ahead of what the whole list lacks.
	checkFault(t, lines("1 2", "x"), wrongLine(2))
	checkFault(t, lines("#@ 5", "7 8", "#h "+exampleHash, "x"), wrongLine(4))
	// Then: what is missing, ahead of the hash, and that ahead of the table.
	checkFault(t, lines("#@ 5", "#h "+exampleHash), api.Fault{Why: api.ErrNone})
	checkFault(t, lines("#@ 5", "7 8", "#h "+exampleHash), api.Fault{Why: api.ErrHash})
	checkFault(t, lines("#@ 5", "7 8", sum("5 7 8")), api.Fault{Why: api.ErrOrder})
}

func TestParseOfWhatIsMissing(t *testing.T) {
	none := api.Fault{Why: api.ErrNone}
	for _, text := range []string{
		"", "\n", "\n\n\n", "\r", " ", "# x", lines("", "# x", " \t"),
		"#@ 5", "0 1", "0 1\n2 3", "#h " + exampleHash, "#h " + strings.Repeat("0", 32), sum(""), sum("5"),
		lines("#@ 5", "0 1"), lines("#@ 5", sum("5")), lines("0 1", sum("0 1")), lines("#@ 0", "0 1"), lines("#@ 0", sum("0")), lines("0 0", sum("0 0")), lines("# @ 5", "0 1", sum("0 1")), lines(" #@ 5", "0 1", sum("5 0 1")), lines("#@ 5", "0 1", " "+sum("5 0 1")), lines("#@ 5", "# 0 1", sum("5 0 1")),
	} {
		checkFault(t, text, none)
	}
}

// Each digit of the hash, and each of the numbers.
func TestParseWithOneDigitTurned(t *testing.T) {
	text := lines(exampleLines...)
	for i := range exampleHash {
		for _, digit := range "0123456789abcdef" {
			turned := exampleHash[:i] + string(digit) + exampleHash[i+1:]
			if turned != exampleHash {
				checkFault(t, strings.Replace(text, exampleHash, turned, 1), api.Fault{Why: api.ErrHash})
			}
		}
	}
	for i, r := range text[:strings.Index(text, "#h")] {
		for _, digit := range "123456789" {
			if '0' <= r && r <= '9' && r != digit {
				checkFault(t, text[:i]+string(digit)+text[i+1:], api.Fault{Why: api.ErrHash})
			}
		}
	}
}

// The texts stand one behind the other with nothing between: so lists that part them elsewhere have one hash.
func TestParseHashesNumbersAlone(t *testing.T) {
	one := sum("5 0 1")
	checkParse(t, lines("#@ 5", "0 1", one), api.Leaps{Changes: []api.Change{{At: 0, Offset: 1}}, Expires: seconds(5)})
	checkFault(t, lines("#@ 50", "1 1", one), api.Fault{Why: api.ErrHash})
	checkFault(t, lines("#@ 5", "0 1", sum("0 1 5")), api.Fault{Why: api.ErrHash})
	checkFault(t, lines("#@ 5", "0 1", sum("5 1 0")), api.Fault{Why: api.ErrHash})
	checkFault(t, lines("#@ 5", "0 1", sum("0 1")), api.Fault{Why: api.ErrHash})
	checkFault(t, lines("#@ 5", "0 1", sum("5\t0\t1")), api.Fault{Why: api.ErrHash})
	parted := sum("23 2678400 12 5")
	checkFault(t, lines("#@ 23", "2678400 12", parted), api.Fault{Why: api.ErrHash})
	checkParse(t, lines("#@ 23", "2678400 125", parted), api.Leaps{Changes: []api.Change{{At: monthAt(1), Offset: 125}}, Expires: seconds(23)})
	checkParse(t, lines("#@ 232", "0 11", sum("232011")), api.Leaps{Changes: []api.Change{{At: 0, Offset: 11}}, Expires: seconds(232)})
	checkParse(t, lines("#@ 2320", "0 1", sum("2320 0 1")), api.Leaps{Changes: []api.Change{{At: 0, Offset: 1}}, Expires: seconds(2320)})
}

// Lists that say no right table, with a right hash.
func TestParseOfTablesThatAreNotRight(t *testing.T) {
	for _, changes := range [][]string{
		{"1 10"}, {"86400 10"}, {"2272060801 10"}, {"2272147200 10"}, {"9999999999 10"}, {"0 201"}, {"0 9999999999"}, {"0 4294967296"}, {"9999936000 0"},
		{"0 10", "0 11"}, {"2678400 10", "0 11"}, {"0 10", "2678400 10"}, {"0 10", "2678400 12"}, {"0 10", "2678400 8"}, {"0 200", "2678400 201"}, {"0 10", "2678401 11"},
		{"2287785600 11", "2272060800 10"}, {"0 10", "2678400 11", "2678400 12"}, {"0 10", "2678400 11", "0 12"}, {"10 0"}, {"10 2272060800"},
	} {
		said := "5 " + strings.Join(changes, " ")
		checkFault(t, lines("#@ 5", strings.Join(changes, "\n"), sum(said)), api.Fault{Why: api.ErrOrder})
		checkFault(t, lines(sum(said), strings.Join(changes, "\n# x\n"), "#@ 5"), api.Fault{Why: api.ErrOrder})
	}
}

// The rest of the file holds Parse against the chapter's words in the form of regular expressions.

const (
	blanks = "[\t \u00a0\u3000]+"
	number = "(0|[1-9][0-9]{0,9})"
	tail   = "(?s:(" + blanks + "(#.*)?)?)$"
)

var (
	expiresForm = regexp.MustCompile("^#@" + blanks + number + tail)
	hashForm    = regexp.MustCompile("^#h" + blanks + "([0-9a-f]{32})" + tail)
	changeForm  = regexp.MustCompile("^(?:" + blanks + ")?" + number + blanks + number + tail)
	emptyForm   = regexp.MustCompile("(?s)^(" + blanks + ")?(#.*)?$")
)

// wantedLine is the fault of a line of layer 7, or of a line that is of no kind.
func wantedLine(line string) (api.Fault, bool) {
	mark := strings.HasPrefix(line, "#@") || strings.HasPrefix(line, "#h")
	rest, char := line, 0
	if mark {
		rest, char = line[2:], 2
	}
	if _, fault := words.Split(rest); fault.Why != api.OK {
		return api.Fault{Why: fault.Why, Char: fault.Char + char}, false
	}
	isKind := expiresForm.MatchString(line) || hashForm.MatchString(line) || changeForm.MatchString(line) || !mark && emptyForm.MatchString(line)
	return api.Fault{Why: api.ErrText}, isKind
}

// wantedParse is Parse by these forms, line by line.
func wantedParse(text string) (api.Leaps, api.Fault) {
	var l api.Leaps
	expires, hashes, said := []string{}, []string{}, ""
	for i, line := range words.Lines(text) {
		fault, isKind := wantedLine(line)
		fault.Line = i + 1
		if m := expiresForm.FindStringSubmatch(line); m != nil {
			expires = append(expires, m[1])
		} else if m := hashForm.FindStringSubmatch(line); m != nil {
			hashes = append(hashes, m[1])
		} else if m := changeForm.FindStringSubmatch(line); m != nil {
			at, _ := strconv.Atoi(m[1])
			offset, _ := strconv.Atoi(m[2])
			l.Changes = append(l.Changes, api.Change{At: seconds(at), Offset: offset})
			said += m[1] + m[2]
		}
		if !isKind || len(expires) > 1 || len(hashes) > 1 {
			return api.Leaps{}, fault
		}
	}
	if len(expires) == 0 || len(hashes) == 0 || len(l.Changes) == 0 {
		return api.Leaps{}, api.Fault{Why: api.ErrNone}
	}
	n, _ := strconv.Atoi(expires[0])
	l.Expires = seconds(n)
	if sum(expires[0]+said) != "#h "+hashes[0] {
		return api.Leaps{}, api.Fault{Why: api.ErrHash}
	}
	if Check(l) != api.OK {
		return api.Leaps{}, api.Fault{Why: api.ErrOrder}
	}
	return l, api.Fault{}
}

func checkParseByForms(t *testing.T, text string) {
	t.Helper()
	want, wantFault := wantedParse(text)
	if l, fault := Parse(text); !same(l, want) || fault != wantFault {
		t.Errorf("Parse(%q) = %v, %v; want %v, %v", text, l, fault, want, wantFault)
	}
}

func TestParseOfEveryShortText(t *testing.T) {
	var grow func(text string, left int)
	grow = func(text string, left int) {
		checkParseByForms(t, text)
		if left > 0 {
			for _, piece := range []string{"#", "@", "h", " ", "0", "7", "\"", "\\", "\n", "\xff", "\u3000", exampleHash} {
				grow(text+piece, left-1)
			}
		}
	}
	grow("", 5)
}

func TestParseOfEveryFewLines(t *testing.T) {
	var grow func(text string, left int)
	grow = func(text string, left int) {
		checkParseByForms(t, text)
		if left > 0 {
			for _, line := range []string{"#@ 5", "#@ 9 # x", "#@ x", "0 1", "2678400 2", "2678400 0 # y", "x", "#h x", "#h \"", sum("5 0 1"), sum("5 0 1 2678400 2"), sum("9 0 1 2678400 0")} {
				grow(text+line+"\n", left-1)
			}
		}
	}
	grow("", 4)
}

// turned is text with a few bytes taken away, put in, or put in place of others.
func turned(r *rand.Rand, text string) string {
	pieces := []string{"#", "@", "h", " ", "0", "1", "9", "a", "A", "\"", "\\", "\n", "\r", "\xff", "\xc3", "é", "\u00a0", "\u3000", "\t", "#@ 5\n", "0 1\n", "\n#", "-", "+", "."}
	for range 1 + r.Intn(3) {
		at := r.Intn(len(text) + 1)
		piece, left := pieces[r.Intn(len(pieces))], text[at:]
		if r.Intn(3) > 0 && left != "" {
			left = left[1:]
		}
		if r.Intn(3) == 0 {
			piece = ""
		}
		text = text[:at] + piece + left
	}
	return text
}

func TestParseOfTurnedLists(t *testing.T) {
	r := rand.New(rand.NewSource(82))
	texts := []string{lines(exampleLines...), lines("# x", "#@\t5 # y", "", "0\u30001", sum("5 0 1")), lines(sum("7 0 10 2678400 9"), "0 10 # z", "\u00a02678400 9", "#@ 7")}
	for range 60000 {
		checkParseByForms(t, turned(r, texts[r.Intn(len(texts))]))
	}
}
