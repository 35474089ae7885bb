package leap

import (
	"strconv"
	"strings"

	"sundial/api"
	"sundial/hash"
	"sundial/words"
)

const (
	// markLength is the bytes of a mark, #@ or #h, and its characters, too.
	markLength = 2

	// hashDigits is the digits of a list's hash.
	hashDigits = 32
)

// kind is what the front of a line says that it is.
type kind int

const (
	plainLine   kind = iota // a change, or no words
	expiresLine             // behind #@
	hashLine                // behind #h
)

// list is what the lines of a list have said so far.
type list struct {
	table      api.Leaps
	hasExpires bool
	hash       string // empty: none was told yet
}

// Parse is the table of a list. ErrText, ErrNone, ErrHash, ErrOrder.
func Parse(text string) (api.Leaps, api.Fault) {
	var l list
	for i, line := range words.Lines(text) {
		if fault := l.read(line); fault.Why != api.OK {
			fault.Line = i + 1
			return api.Leaps{}, fault
		}
	}
	if errno := l.check(); errno != api.OK {
		return api.Leaps{}, api.Fault{Why: errno}
	}
	return l.table, api.Fault{}
}

// Format is the list that says the table l. ErrShape.
func Format(l api.Leaps) (string, api.Errno) {
	if errno := Check(l); errno != api.OK {
		return "", errno
	}
	var text strings.Builder
	text.WriteString("#@ " + inSeconds(l.Expires) + "\n")
	for _, c := range l.Changes {
		text.WriteString(inSeconds(c.At) + " " + strconv.Itoa(c.Offset) + "\n")
	}
	text.WriteString("#h " + hashOf(l) + "\n")
	return text.String(), api.OK
}

// read takes in a line. Its fault, if it has one, is still without the line's number.
func (l *list) read(line string) api.Fault {
	is, rest := front(line)
	found, fault := words.Split(rest)
	if fault.Why != api.OK {
		if is != plainLine {
			fault.Char += markLength
		}
		return fault
	}
	if !l.take(is, found) {
		return api.Fault{Why: api.ErrText}
	}
	return api.Fault{}
}

// take takes in the words of a line, or of what stands behind its mark. False: there is no such line, or not once more.
func (l *list) take(is kind, found []api.Word) bool {
	switch is {
	case expiresLine:
		return l.takeExpires(found)
	case hashLine:
		return l.takeHash(found)
	}
	return len(found) == 0 || l.takeChange(found)
}

func (l *list) takeExpires(found []api.Word) bool {
	n, errno := words.Number(behindMark(found))
	if errno != api.OK || l.hasExpires {
		return false
	}
	l.hasExpires = true
	l.table.Expires = api.Time(n) * api.Second
	return true
}

func (l *list) takeHash(found []api.Word) bool {
	text := behindMark(found)
	if !isHash(text) || l.hash != "" {
		return false
	}
	l.hash = text
	return true
}

func (l *list) takeChange(found []api.Word) bool {
	if len(found) != 2 || found[0].Quoted || found[1].Quoted {
		return false
	}
	at, errnoAt := words.Number(found[0].Text)
	offset, errnoOffset := words.Number(found[1].Text)
	if errnoAt != api.OK || errnoOffset != api.OK {
		return false
	}
	l.table.Changes = append(l.table.Changes, api.Change{At: api.Time(at) * api.Second, Offset: offset})
	return true
}

// check is what is wrong with the whole of a list each line of which is right.
func (l *list) check() api.Errno {
	if !l.hasExpires || l.hash == "" || len(l.table.Changes) == 0 {
		return api.ErrNone
	}
	if l.hash != hashOf(l.table) {
		return api.ErrHash
	}
	if Check(l.table) != api.OK {
		return api.ErrOrder
	}
	return api.OK
}

// front is what a line's first characters say that it is, and what is to be cut into words: all of it, or what stands behind its mark.
func front(line string) (kind, string) {
	for at, r := range line {
		switch {
		case at == 0 && r == '#':
		case at == 1 && r == '@':
			return expiresLine, line[markLength:]
		case at == 1 && r == 'h':
			return hashLine, line[markLength:]
		default:
			return plainLine, line
		}
	}
	return plainLine, line
}

// behindMark is the text of the one word that may stand behind a mark, unquoted and with a blank ahead of it. Without one it is empty, which is no number and no hash.
func behindMark(found []api.Word) string {
	if len(found) != 1 || found[0].Quoted || found[0].Char == 0 {
		return ""
	}
	return found[0].Text
}

// isHash tells whether s is digits of the base sixteen, small ones, as many as a hash has.
func isHash(s string) bool {
	for _, r := range s {
		if (r < '0' || r > '9') && (r < 'a' || r > 'f') {
			return false
		}
	}
	return len(s) == hashDigits
}

// hashOf is the hash of a list that says l. The numbers are written as they stood there, as a whole number has no other text.
func hashOf(l api.Leaps) string {
	var said strings.Builder
	said.WriteString(inSeconds(l.Expires))
	for _, c := range l.Changes {
		said.WriteString(inSeconds(c.At) + strconv.Itoa(c.Offset))
	}
	return hash.Hex(hash.MD5([]byte(said.String())))
}

// inSeconds is the digits of a time that is a whole number of seconds.
func inSeconds(t api.Time) string { return strconv.FormatInt(int64(t/api.Second), 10) }
