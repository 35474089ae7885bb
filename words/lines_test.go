package words

import (
	"slices"
	"strings"
	"testing"
)

func checkLines(t *testing.T, text string, want ...string) {
	t.Helper()
	if got := Lines(text); !slices.Equal(got, want) {
		t.Errorf("Lines(%q) = %q; want %q", text, got, want)
	}
}

// P7.1
func TestLinesOfTheExamples(t *testing.T) {
	checkLines(t, "a\r\n\nb", "a", "", "b")
	checkLines(t, "a\n", "a")
	checkLines(t, "")
}

func TestLinesOfBytes10Alone(t *testing.T) {
	for n := range 100 {
		checkLines(t, strings.Repeat("\n", n), make([]string, n)...)
		checkLines(t, strings.Repeat("\r\n", n), make([]string, n)...)
		checkLines(t, strings.Repeat("\n", n)+"x", append(make([]string, n), "x")...)
	}
}

func TestLinesWithBytes13(t *testing.T) {
	// Behind the last byte 10 stands a byte 13, so there is a line; the byte is left out at its end.
	checkLines(t, "\r", "")
	checkLines(t, "\n\r", "", "")
	checkLines(t, "\r\n", "")
	checkLines(t, "\r\n\r", "", "")
	checkLines(t, "\n\r\n", "", "")
	checkLines(t, "\r\r", "\r")
	checkLines(t, "\r\r\r", "\r\r")
	checkLines(t, "\r\r\n", "\r")
	checkLines(t, "a\r", "a")
	checkLines(t, "a\r\r", "a\r")
	checkLines(t, "a\r\r\nb\r\r\r\n", "a\r", "b\r\r")
	checkLines(t, "a\rb", "a\rb")
	checkLines(t, "a\rb\nc", "a\rb", "c")
	checkLines(t, "\ra", "\ra")
	checkLines(t, "a\n\rb", "a", "\rb")
	checkLines(t, "a\r \n", "a\r ")
	checkLines(t, "\r\ra\r\r", "\r\ra\r")
}

func TestLinesOfOtherBytes(t *testing.T) {
	checkLines(t, "a", "a")
	checkLines(t, " ", " ")
	checkLines(t, " a \n\tb\t", " a ", "\tb\t")
	checkLines(t, "a\n\n\nb\n", "a", "", "", "b")
	checkLines(t, "\na", "", "a")
	// Other characters that end lines elsewhere, wrong bytes and quotes are nothing of their own here.
	for _, s := range []string{"a\vb", "a\fb", "a\u0085b", "a\u2028b", "a\u2029b", "\x85", "\xff", "a\xc3", "é\u3000\U0001f600", "\x00", "a\x00b", "\ufeffa", "\ufffd", `a\nb`, `a\`, "# a"} {
		checkLines(t, s, s)
		checkLines(t, s+"\n", s)
		checkLines(t, s+"\r\n"+s, s, s)
	}
	checkLines(t, "\"a\nb\" \"\\\nc", `"a`, `b" "\`, "c")
	checkLines(t, "\xe3\n\x80\x80", "\xe3", "\x80\x80")
	long := strings.Repeat("0123456789", 20000)
	checkLines(t, long+"\r\n"+long+"\n\n"+long, long, long, "", long)
}

// wantedLines is Lines by the promise's words: every byte 10 ends what stands ahead of it.
func wantedLines(text string) []string {
	var want []string
	from := 0
	for i := range len(text) + 1 {
		if i < len(text) && text[i] != 10 || i == len(text) && from == i {
			continue
		}
		line := text[from:i]
		if line != "" && line[len(line)-1] == 13 {
			line = line[:len(line)-1]
		}
		want = append(want, line)
		from = i + 1
	}
	return want
}

// eachText hands to f every text of up to most of the pieces.
func eachText(pieces []string, most int, f func(string)) {
	var grow func(text string, left int)
	grow = func(text string, left int) {
		f(text)
		if left == 0 {
			return
		}
		for _, p := range pieces {
			grow(text+p, left-1)
		}
	}
	grow("", most)
}

func TestLinesOfEveryShortText(t *testing.T) {
	eachText([]string{"\n", "\r", "a", " ", "\xff"}, 7, func(text string) { checkLines(t, text, wantedLines(text)...) })
}

func TestLinesPutTogetherAgain(t *testing.T) {
	eachText([]string{"\n", "\r", "é"}, 9, func(text string) {
		lines := Lines(text)
		if back := Lines(strings.Join(lines, "\r\n") + "\r\n"); len(lines) > 0 && !slices.Equal(back, lines) {
			t.Errorf("Lines of the lines %q of %q: %q", lines, text, back)
		}
	})
}

func TestLinesAreNewMemory(t *testing.T) {
	first, second := Lines("a\nb\nc"), Lines("a\nb\nc")
	first[0] = "x"
	_ = append(first[:1], "y")
	if !slices.Equal(second, []string{"a", "b", "c"}) {
		t.Errorf("left are %q", second)
	}
	checkLines(t, "a\nb\nc", "a", "b", "c")
}
