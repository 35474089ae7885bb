package words

import (
	"math/rand"
	"regexp"
	"slices"
	"strings"
	"sync"
	"testing"
	"unicode/utf8"

	"sundial/api"
)

func word(char int, text string) api.Word { return api.Word{Text: text, Char: char} }

func quotedWord(char int, text string) api.Word {
	return api.Word{Text: text, Char: char, Quoted: true}
}

func checkSplit(t *testing.T, line string, want ...api.Word) {
	t.Helper()
	if got, fault := Split(line); !slices.Equal(got, want) || fault != (api.Fault{}) {
		t.Errorf("Split(%q) = %+v, %v; want %+v", line, got, fault, want)
	}
}

func checkFault(t *testing.T, line string, char int) {
	t.Helper()
	want := api.Fault{Why: api.ErrText, Line: 0, Char: char}
	if got, fault := Split(line); len(got) != 0 || fault != want {
		t.Errorf("Split(%q) = %+v, %v; want none, %v", line, got, fault, want)
	}
}

// P7.2
func TestSplitOfTheExamples(t *testing.T) {
	checkSplit(t, `server "a b" # x`, word(0, "server"), quotedWord(7, "a b"))
	checkSplit(t, `é "\"\\" x`, word(0, "é"), quotedWord(2, `"\`), word(9, "x"))
	checkFault(t, `a"b`, 1)
	checkFault(t, `"a"b`, 3)
	checkFault(t, `"ab`, 0)
	checkFault(t, `"a\`, 0)
	checkFault(t, "# x \xff", 4)
}

var blanks = []string{"\t", " ", "\u00a0", "\u3000"}

func TestSplitOfLinesWithoutWords(t *testing.T) {
	checkSplit(t, "")
	eachText(blanks, 6, func(line string) {
		checkSplit(t, line)
		checkSplit(t, line+"#")
		checkSplit(t, line+`# "a" b`)
	})
	checkSplit(t, strings.Repeat(" \u3000", 50000))
}

func TestSplitAtBlanks(t *testing.T) {
	for _, a := range blanks {
		checkSplit(t, a+"x", word(1, "x"))
		checkSplit(t, "x"+a, word(0, "x"))
		checkSplit(t, "xy"+a+"z", word(0, "xy"), word(3, "z"))
		checkSplit(t, `"x"`+a+"z", quotedWord(0, "x"), word(4, "z"))
		checkSplit(t, `"x`+a+`z"`, quotedWord(0, "x"+a+"z"))
		checkSplit(t, `"\`+a+`"`, quotedWord(0, a))
		checkSplit(t, `\`+a+`\`, word(0, `\`), word(2, `\`))
		for _, b := range blanks {
			checkSplit(t, a+b+"x"+b+a+"y"+a+a, word(2, "x"), word(5, "y"))
			checkSplit(t, a+`"x"`+b+`"y"`+a, quotedWord(1, "x"), quotedWord(5, "y"))
			checkSplit(t, "x"+a+b+"# y", word(0, "x"))
		}
	}
}

// besideBlanks are characters that are none of the four blanks, but near them in number, in their bytes, or by what others call blank.
var besideBlanks = []rune{0, 1, 8, 10, 11, 12, 13, 14, 28, 31, 33, 127, 128, 0x85, 159, 161, 0xc2, 0xe3, 5760, 8192, 8195, 8199, 8200, 8202, 8203, 8232, 8233, 8239, 8287, 8288, 12287, 12289, 0xfeff, 0xfffc, 0xfffd, 0xfffe, 0xffff, 0x10000, 0x10020, 0x13000, 0x100020, 0x10ffff}

func TestSplitAtNoOtherCharacters(t *testing.T) {
	for _, r := range besideBlanks {
		s := string(r)
		checkSplit(t, s, word(0, s))
		checkSplit(t, "x"+s+"y z", word(0, "x"+s+"y"), word(4, "z"))
		checkSplit(t, " "+s+s+" z", word(1, s+s), word(4, "z"))
		checkSplit(t, `"`+s+`" z`, quotedWord(0, s), word(4, "z"))
		checkSplit(t, `"\`+s+`" z`, quotedWord(0, s), word(5, "z"))
		checkSplit(t, "#"+s)
		checkFault(t, `"x"`+s, 3)
		checkFault(t, s+`"`, 1)
	}
}

func TestSplitOfEveryCharacter(t *testing.T) {
	for r := range rune(utf8.MaxRune + 1) {
		if !utf8.ValidRune(r) || strings.ContainsRune("#\"\t \u00a0\u3000", r) {
			continue
		}
		s := string(r)
		if got, fault := Split(s + s + " " + s); !slices.Equal(got, []api.Word{word(0, s+s), word(3, s)}) || fault != (api.Fault{}) {
			t.Fatalf("of %q: %+v, %v", s, got, fault)
		}
	}
}

func TestSplitOfRemarks(t *testing.T) {
	checkSplit(t, "#")
	checkSplit(t, "##")
	checkSplit(t, "#a b")
	checkSplit(t, "# a b")
	checkSplit(t, " \t#a")
	checkSplit(t, "a #", word(0, "a"))
	checkSplit(t, "a #b c", word(0, "a"))
	checkSplit(t, "a # b # c", word(0, "a"))
	checkSplit(t, "a# b", word(0, "a#"), word(3, "b"))
	checkSplit(t, "a#b", word(0, "a#b"))
	checkSplit(t, "a## #b", word(0, "a##"))
	checkSplit(t, `\#a`, word(0, `\#a`))
	checkSplit(t, `\ #a`, word(0, `\`))
	checkSplit(t, `"#"`, quotedWord(0, "#"))
	checkSplit(t, `"a # b" c`, quotedWord(0, "a # b"), word(8, "c"))
	checkSplit(t, `"\#" #`, quotedWord(0, "#"))
	checkSplit(t, `# "`)
	checkSplit(t, `# a"b "a"b \`)
	checkSplit(t, `#"`)
	checkSplit(t, `a #"\`, word(0, "a"))
	checkFault(t, `"a"#`, 3)
	checkFault(t, `"a"# "`, 3)
	checkFault(t, `a#"`, 2)
}

func TestSplitOfPlainWords(t *testing.T) {
	checkSplit(t, "a", word(0, "a"))
	checkSplit(t, " a", word(1, "a"))
	checkSplit(t, "a b", word(0, "a"), word(2, "b"))
	checkSplit(t, "a a a", word(0, "a"), word(2, "a"), word(4, "a"))
	checkSplit(t, `\`, word(0, `\`))
	checkSplit(t, `\\ \a\`, word(0, `\\`), word(3, `\a\`))
	checkSplit(t, "'a b'", word(0, "'a"), word(3, "b'"))
	checkSplit(t, "“a b”", word(0, "“a"), word(3, "b”"))
	checkSplit(t, "a\rb c\nd", word(0, "a\rb"), word(4, "c\nd"))
	long := strings.Repeat("é€", 30000)
	checkSplit(t, long+" "+long, word(0, long), word(60001, long))
}

// The number of a character counts characters, of however many bytes those ahead of it are.
func TestSplitCountsCharacters(t *testing.T) {
	for _, s := range []string{"a", "é", "€", "\U0001f600", "\ufffd", "\U0010ffff", "\x00", "\u0301"} {
		checkSplit(t, s, word(0, s))
		checkSplit(t, s+" "+s, word(0, s), word(2, s))
		checkSplit(t, s+s+s+"\u3000"+s+" x", word(0, s+s+s), word(4, s), word(6, "x"))
		checkSplit(t, `"`+s+`" x`, quotedWord(0, s), word(4, "x"))
		checkSplit(t, `"\`+s+s+`" x "`+s+`"`, quotedWord(0, s+s), word(6, "x"), quotedWord(8, s))
		checkFault(t, s+"\xff", 1)
		checkFault(t, s+s+`"`, 2)
		checkFault(t, s+" # "+s+"\xff", 5)
		checkFault(t, `"`+s+s+`"`+s, 4)
		checkFault(t, s+"\u00a0"+s+` "`+s, 4)
		checkFault(t, s+"\u3000"+`"`+s+"\xff", 4)
	}
}

func TestSplitOfQuotedWords(t *testing.T) {
	checkSplit(t, `""`, quotedWord(0, ""))
	checkSplit(t, `"" ""`, quotedWord(0, ""), quotedWord(3, ""))
	checkSplit(t, ` "" #`, quotedWord(1, ""))
	checkSplit(t, `" "`, quotedWord(0, " "))
	checkSplit(t, `"a" a "a"`, quotedWord(0, "a"), word(4, "a"), quotedWord(6, "a"))
	checkSplit(t, `"a" "" b`, quotedWord(0, "a"), quotedWord(4, ""), word(7, "b"))
	checkSplit(t, `"\""`, quotedWord(0, `"`))
	checkSplit(t, `"\\"`, quotedWord(0, `\`))
	checkSplit(t, `"\\\\"`, quotedWord(0, `\\`))
	checkSplit(t, `"\\\""`, quotedWord(0, `\"`))
	checkSplit(t, `"\"\""`, quotedWord(0, `""`))
	checkSplit(t, `"a\"b"`, quotedWord(0, `a"b`))
	checkSplit(t, `"a\" b\"" c`, quotedWord(0, `a" b"`), word(10, "c"))
	checkSplit(t, `"\n\a\ \#\\n"`, quotedWord(0, `na #\n`))
	checkSplit(t, `"a\\" b`, quotedWord(0, `a\`), word(6, "b"))
	checkSplit(t, `"a#" b`, quotedWord(0, "a#"), word(5, "b"))
	checkSplit(t, "\"a\nb\r\tc\"", quotedWord(0, "a\nb\r\tc"))
	checkSplit(t, "\"\\\n\"", quotedWord(0, "\n"))
	checkSplit(t, "\"a\"\u3000\"b\"", quotedWord(0, "a"), quotedWord(4, "b"))
}

func TestSplitFindsEachFault(t *testing.T) {
	// A wrong byte.
	for _, s := range []string{"", "a", " ", "#", "# a", "a ", `"`, `"a`, `"\`, `"a"`, `"a" `, "é", "€ ", "\U0001f600", `\`} {
		at := utf8.RuneCountInString(s)
		for _, wrong := range []string{"\x80", "\xbf", "\xc0", "\xc3", "\xe3", "\xef", "\xf0", "\xf5", "\xff", "\xc0\x80", "\xed\xa0\x80", "\xe3\x80", "\xef\xbf", "\xf0\x9f\x98", "\xf4\x90\x80\x80", "\xc2"} {
			checkFault(t, s+wrong, at)
			checkFault(t, s+wrong+`"`, at)
			checkFault(t, s+wrong+" a #", at)
		}
	}
	checkFault(t, "\ufffd\ufffd\x80\ufffd", 2)
	// A " in a word that doesn't begin with one.
	checkFault(t, `a"`, 1)
	checkFault(t, `a" b`, 1)
	checkFault(t, `a""`, 1)
	checkFault(t, `abc"d"`, 3)
	checkFault(t, `\"`, 1)
	checkFault(t, `x ab" "c"`, 4)
	checkFault(t, `"x" ab"`, 6)
	// A character behind a closing " that is no blank.
	checkFault(t, `""a`, 2)
	checkFault(t, `"""`, 2)
	checkFault(t, `""""`, 2)
	checkFault(t, `"a""b"`, 3)
	checkFault(t, `"a"\`, 3)
	checkFault(t, `"\""a`, 4)
	checkFault(t, `x "a"b "c"`, 5)
	checkFault(t, "\"a\"\r", 3)
	checkFault(t, "\"a\"\n", 3)
	// A " that isn't closed.
	checkFault(t, `"`, 0)
	checkFault(t, `"\`, 0)
	checkFault(t, `"\"`, 0)
	checkFault(t, `"\\`, 0)
	checkFault(t, `"\\\"`, 0)
	checkFault(t, ` "a # b`, 1)
	checkFault(t, `x "a" "b`, 6)
	checkFault(t, `"a" "`, 4)
}

func TestSplitFindsTheFirstFault(t *testing.T) {
	checkFault(t, "a\"b \xff", 1)
	checkFault(t, "\xff a\"b", 0)
	checkFault(t, "\"a\"b \xff", 3)
	checkFault(t, "\xff \"a\"b", 0)
	checkFault(t, "\"a\"\xff", 3)
	checkFault(t, "a\xff\"", 1)
	checkFault(t, `a"b "a"b`, 1)
	checkFault(t, `"a"b a"b`, 3)
	checkFault(t, "a\"b # \xff", 1)
	checkFault(t, "\"a\"b # \xff", 3)
	checkFault(t, "# \xff a\"b \xff", 2)
	// The " that isn't closed stands ahead of what else is wrong, and gives way to it.
	checkFault(t, "\"a \xff", 3)
	checkFault(t, "\"\xff", 1)
	checkFault(t, "\"\\\xff", 2)
	checkFault(t, "x \"# \xff", 5)
	checkFault(t, `a"b "c`, 1)
	checkFault(t, `"a"b "c`, 3)
	checkFault(t, `"a" b"c "d`, 5)
	checkFault(t, "\xff \"c", 0)
}

var (
	blankRun   = regexp.MustCompile("^[\\x{9}\\x{20}\\x{a0}\\x{3000}]+")
	remarkRun  = regexp.MustCompile(`(?s)^#.*$`)
	quotedRun  = regexp.MustCompile(`(?s)^"(?:[^"\\]|\\.)*"`)
	plainRun   = regexp.MustCompile("^[^\"\\x{9}\\x{20}\\x{a0}\\x{3000}]+")
	escapedOne = regexp.MustCompile(`(?s)\\(.)`)
)

// wantedSplit is Split by other means: what stands ahead of the first wrong byte is cut by regular expressions. It answers at which character the fault is, or -1.
func wantedSplit(line string) ([]api.Word, int) {
	good := line
	for i := range len(line) + 1 {
		if utf8.ValidString(line[:i]) {
			good = line[:i]
		}
	}
	wrong := -1
	if len(good) < len(line) {
		wrong = utf8.RuneCountInString(good)
	}
	var all []api.Word
	for left := good; left != ""; {
		char := utf8.RuneCountInString(good) - utf8.RuneCountInString(left)
		if run := blankRun.FindString(left) + remarkRun.FindString(left); run != "" {
			left = left[len(run):]
			continue
		}
		run := quotedRun.FindString(left)
		if run == "" && left[0] == '"' {
			if wrong < 0 {
				return nil, char
			}
			break
		}
		w := quotedWord(char, escapedOne.ReplaceAllString(strings.TrimSuffix(strings.TrimPrefix(run, `"`), `"`), "$1"))
		if run == "" {
			run = plainRun.FindString(left)
			w = word(char, run)
		}
		all = append(all, w)
		left = left[len(run):]
		if left != "" && blankRun.FindString(left) == "" {
			return nil, char + utf8.RuneCountInString(run)
		}
	}
	if wrong >= 0 {
		return nil, wrong
	}
	return all, -1
}

func checkSplitByOtherMeans(t *testing.T, line string) {
	t.Helper()
	if all, fault := wantedSplit(line); fault >= 0 {
		checkFault(t, line, fault)
	} else {
		checkSplit(t, line, all...)
	}
}

func TestSplitOfEveryShortLine(t *testing.T) {
	eachText([]string{"a", `"`, `\`, "#", " ", "\u3000", "\xff"}, 6, func(line string) { checkSplitByOtherMeans(t, line) })
}

func TestSplitOfRandomLines(t *testing.T) {
	r := rand.New(rand.NewSource(71))
	pieces := []string{"a", "b", "é", "€", "\U0001f600", `"`, `"`, `"`, ` "`, `" `, `\`, `\`, "#", " #", " ", " ", "\t", "\u00a0", "\u3000", "\ufffd", "\n", "\r", "\u2003", "\x00"}
	for range 60000 {
		var line strings.Builder
		for range r.Intn(24) {
			line.WriteString(pieces[r.Intn(len(pieces))])
		}
		if r.Intn(8) == 0 {
			line.WriteString("\x80\xe3\x80"[r.Intn(3):])
			line.WriteString(pieces[r.Intn(len(pieces))])
		}
		checkSplitByOtherMeans(t, line.String())
	}
}

func TestSplitOfRandomBytes(t *testing.T) {
	r := rand.New(rand.NewSource(72))
	for range 20000 {
		line := make([]byte, r.Intn(12))
		r.Read(line)
		checkSplitByOtherMeans(t, string(line))
	}
}

func TestSplitHangsOnItsLineAlone(t *testing.T) {
	first, _ := Split("a b c")
	first[0].Text = "x"
	_ = append(first[:1], word(9, "y"))
	checkSplit(t, "a b c", word(0, "a"), word(2, "b"), word(4, "c"))
	checkFault(t, `a "b`, 2)
	checkSplit(t, "a b", word(0, "a"), word(2, "b"))
	var all sync.WaitGroup
	for range 8 {
		all.Go(func() {
			for range 2000 {
				checkSplit(t, `a "b\"" c # d`, word(0, "a"), quotedWord(2, `b"`), word(8, "c"))
				checkFault(t, `"a" b "`, 6)
			}
		})
	}
	all.Wait()
}
