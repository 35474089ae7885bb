package words

import (
	"math/rand"
	"slices"
	"strings"
	"testing"
	"unicode/utf8"

	"sundial/api"
)

func checkQuote(t *testing.T, s, want string) {
	t.Helper()
	if got := Quote(s); got != want {
		t.Errorf("Quote(%q) = %q; want %q", s, got, want)
	}
}

// P7.3
func TestQuoteOfTexts(t *testing.T) {
	checkQuote(t, "", `""`)
	checkQuote(t, "a", `"a"`)
	checkQuote(t, "a b", `"a b"`)
	checkQuote(t, `"`, `"\""`)
	checkQuote(t, `\`, `"\\"`)
	checkQuote(t, `a"b\c`, `"a\"b\\c"`)
	checkQuote(t, `"\`, `"\"\\"`)
	checkQuote(t, `\"`, `"\\\""`)
	checkQuote(t, `""`, `"\"\""`)
	checkQuote(t, `\\`, `"\\\\"`)
	checkQuote(t, `\n`, `"\\n"`)
	checkQuote(t, "# a", `"# a"`)
	checkQuote(t, Quote(`"`), `"\"\\\"\""`)
	checkQuote(t, strings.Repeat(`"a`, 50000), `"`+strings.Repeat(`\"a`, 50000)+`"`)
}

// All but " and \ stands as it is: what is no blank to a printer, and what is no character at all.
func TestQuoteKeepsOtherBytes(t *testing.T) {
	for b := range 256 {
		s := string([]byte{byte(b)})
		if s == `"` || s == `\` {
			continue
		}
		checkQuote(t, s, `"`+s+`"`)
		checkQuote(t, "a"+s+`"`+s+`\`, `"a`+s+`\"`+s+`\\"`)
	}
	for _, s := range []string{"é", "€", "\U0001f600", "\u00a0", "\u3000", "\ufffd", "\ufeff", "\n", "\r\n", "\t", "\x00", "\xff\xfe", "\xe3\x80", "\xed\xa0\x80", "“a”", "'", "`", "＂", "＼", "\U00010022", "\u2222", "\u225c"} {
		checkQuote(t, s, `"`+s+`"`)
	}
}

func TestQuoteOfEveryShortText(t *testing.T) {
	eachText([]string{"a", `"`, `\`, " ", "é", "\xff"}, 6, func(s string) {
		checkQuote(t, s, `"`+strings.NewReplacer(`"`, `\"`, `\`, `\\`).Replace(s)+`"`)
	})
}

// checkReadBack holds Split of the Quotes of texts, with blanks between and around, against the texts.
func checkReadBack(t *testing.T, r *rand.Rand, texts []string) {
	t.Helper()
	line := someBlanks(r, 0)
	var want []api.Word
	for i, s := range texts {
		if i > 0 {
			line += someBlanks(r, 1)
		}
		want = append(want, quotedWord(utf8.RuneCountInString(line), s))
		line += Quote(s)
	}
	checkSplit(t, line+someBlanks(r, 0), want...)
}

func someBlanks(r *rand.Rand, least int) string {
	s := ""
	for range least + r.Intn(3) {
		s += blanks[r.Intn(len(blanks))]
	}
	return s
}

// P7.5
func TestQuotesAreReadBack(t *testing.T) {
	r := rand.New(rand.NewSource(73))
	checkReadBack(t, r, nil)
	for _, s := range []string{"", "a", `"`, `\`, `\"`, `"\`, `a\`, `a"`, "#", "a#", " ", "\u3000", "\t", "\u00a0", "é", "\U0001f600", "\ufffd", "\r", "\x00", `\n`, `""`, Quote("a"), Quote(Quote(`"\`))} {
		checkReadBack(t, r, []string{s})
		checkReadBack(t, r, []string{s, s})
		checkReadBack(t, r, []string{"x", s, "", s, `\`})
	}
	eachText([]string{"a", `"`, `\`, " ", "#"}, 6, func(s string) { checkSplit(t, Quote(s), quotedWord(0, s)) })
}

func TestQuotesOfRandomTextsAreReadBack(t *testing.T) {
	r := rand.New(rand.NewSource(74))
	pieces := []rune{'a', '"', '"', '\\', '\\', '#', ' ', '\t', 0xa0, 0x3000, 'é', '€', 0x1f600, 0xfffd, '\r', 0, 'n'}
	for range 20000 {
		texts := make([]string, r.Intn(6))
		for i := range texts {
			for range r.Intn(9) {
				texts[i] += string(pieces[r.Intn(len(pieces))])
			}
		}
		checkReadBack(t, r, texts)
	}
}

// A line that Lines cuts off is one that Split reads back, too: Quote puts no line's end into it.
func TestQuotesAreReadBackLineByLine(t *testing.T) {
	texts := []string{"", "a b", `"`, `\`, "#", "\ra", "\u3000"}
	var file strings.Builder
	for _, s := range texts {
		file.WriteString(Quote(s) + " " + Quote("x") + "\r\n")
	}
	var back []string
	for _, line := range Lines(file.String()) {
		all, fault := Split(line)
		if len(all) != 2 || all[1].Text != "x" || fault != (api.Fault{}) {
			t.Fatalf("Split(%q) = %v, %v", line, all, fault)
		}
		back = append(back, all[0].Text)
	}
	if !slices.Equal(back, texts) {
		t.Errorf("%q; want %q", back, texts)
	}
}
