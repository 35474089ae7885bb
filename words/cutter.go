package words

import (
	"strings"

	"sundial/api"
)

// place is where in a line a character stands.
type place int

const (
	between place = iota // ahead of a word
	plain                // in a word without quotes
	quoted               // in a quoted word
	escaped              // in a quoted word, behind a \ that takes it
	closed               // right behind a closing "
	remark
)

// cutter cuts a line into words, and is handed one character after the other.
type cutter struct {
	where place
	words []api.Word
	word  api.Word // the one that is being cut, still without its text
	text  strings.Builder
}

// take goes on by the character r, the line's one with the number char. False: it may not stand there.
func (c *cutter) take(r rune, char int) bool {
	switch c.where {
	case between:
		c.begin(r, char)
	case plain:
		return c.takePlain(r)
	case quoted:
		c.takeQuoted(r)
	case escaped:
		c.text.WriteRune(r)
		c.where = quoted
	case closed:
		if !isBlank(r) {
			return false
		}
		c.where = between
	}
	return true
}

// begin goes on by a character that stands in no word yet.
func (c *cutter) begin(r rune, char int) {
	if isBlank(r) {
		return
	}
	c.word = api.Word{Char: char, Quoted: r == '"'}
	switch r {
	case '#':
		c.where = remark
	case '"':
		c.where = quoted
	default:
		c.text.WriteRune(r)
		c.where = plain
	}
}

func (c *cutter) takePlain(r rune) bool {
	switch {
	case r == '"':
		return false
	case isBlank(r):
		c.finish()
		c.where = between
	default:
		c.text.WriteRune(r)
	}
	return true
}

func (c *cutter) takeQuoted(r rune) {
	switch r {
	case '\\':
		c.where = escaped
	case '"':
		c.finish()
		c.where = closed
	default:
		c.text.WriteRune(r)
	}
}

// end tells the cutter that no character is left. False: the word's " isn't closed.
func (c *cutter) end() bool {
	if c.where == plain {
		c.finish()
	}
	return c.where != quoted && c.where != escaped
}

// finish puts the word that is being cut behind the others.
func (c *cutter) finish() {
	c.word.Text = c.text.String()
	c.words = append(c.words, c.word)
	c.text.Reset()
}

func isBlank(r rune) bool {
	switch r {
	case '\t', ' ', '\u00a0', '\u3000':
		return true
	}
	return false
}

// isWrong tells whether r, which a range over a string gave for the front of rest, stands for a wrong byte. The character that it then gives may stand in a line, too.
func isWrong(r rune, rest string) bool {
	return r == '\ufffd' && !strings.HasPrefix(rest, "\ufffd")
}
