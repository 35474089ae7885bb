package disk

import (
	"fmt"
	"math"
	"math/rand"
	"slices"
	"sort"
	"strings"
	"testing"

	"sundial/api"
)

// The disk against another one that is kept in another way: as a journal of what became of files, and of which changes there were.

// store is what both disks are.
type store interface {
	Write(name string, data []byte) api.Errno
	Rename(from, to string) api.Errno
	Remove(name string) api.Errno
	Read(name string) ([]byte, api.Errno)
	Names() []string
	Cut(n, keep int) api.Errno
	Restart() api.Errno
}

// entry is what became of a file: it was there with data, or wasn't there any more.
type entry struct {
	name, data string
	there      bool
}

// journal is the other disk. The power is out while it went out more often than it was known to at the last restart.
type journal struct {
	entries           []entry
	changes           int
	wentOut, restarts int
	cuts              []cut // the last one holds
}

// cut is a Cut: at which change of all, and how far that one comes.
type cut struct{ at, keep int }

// never is at no change, as the first one has the number 1.
var never = cut{at: 0}

func (j *journal) find(name string) (string, bool) {
	for _, e := range slices.Backward(j.entries) {
		if e.name == name {
			return e.data, e.there
		}
	}
	return "", false
}

func (j *journal) isOut() bool { return j.wentOut > j.restarts }

// made notes a change, and tells how far it comes and its answer.
func (j *journal) made() (int, api.Errno) {
	j.changes++
	last := append([]cut{never}, j.cuts...)[len(j.cuts)]
	if last.at != j.changes {
		return math.MaxInt, api.OK
	}
	j.wentOut++
	return last.keep, api.ErrDown
}

func (j *journal) Write(name string, data []byte) api.Errno {
	switch {
	case j.isOut():
		return api.ErrDown
	case !nameForm.MatchString(name):
		return api.ErrText
	case len(data) >= 65537:
		return api.ErrLong
	}
	keep, errno := j.made()
	if text := string(data); keep >= 0 {
		j.entries = append(j.entries, entry{name, text[:min(len(text), keep)], true})
	}
	return errno
}

func (j *journal) Rename(from, to string) api.Errno {
	switch {
	case j.isOut():
		return api.ErrDown
	case !nameForm.MatchString(from) || !nameForm.MatchString(to):
		return api.ErrText
	}
	data, there := j.find(from)
	if !there {
		return api.ErrNone
	}
	keep, errno := j.made()
	if keep > 0 && from != to {
		j.entries = append(j.entries, entry{from, "", false}, entry{to, data, true})
	}
	return errno
}

func (j *journal) Remove(name string) api.Errno {
	switch _, there := j.find(name); {
	case j.isOut():
		return api.ErrDown
	case !nameForm.MatchString(name):
		return api.ErrText
	case !there:
		return api.ErrNone
	}
	keep, errno := j.made()
	if keep > 0 {
		j.entries = append(j.entries, entry{name, "", false})
	}
	return errno
}

func (j *journal) Read(name string) ([]byte, api.Errno) {
	switch data, there := j.find(name); {
	case j.isOut():
		return nil, api.ErrDown
	case !nameForm.MatchString(name):
		return nil, api.ErrText
	case !there:
		return nil, api.ErrNone
	default:
		return []byte(data), api.OK
	}
}

func (j *journal) Names() []string {
	var names []string
	for _, e := range j.entries {
		if _, there := j.find(e.name); there && !j.isOut() && !slices.Contains(names, e.name) {
			names = append(names, e.name)
		}
	}
	sort.Strings(names)
	return names
}

func (j *journal) Cut(n, keep int) api.Errno {
	if n <= -1 {
		return api.ErrRange
	}
	j.cuts = append(j.cuts, cut{j.changes + 1 + n, keep})
	return api.OK
}

func (j *journal) Restart() api.Errno {
	j.restarts = j.wentOut
	j.cuts = append(j.cuts, never)
	return api.OK
}

// call is a call of a disk, with a name of its own.
type call struct {
	name string
	make func(s store) string
}

func callWrite(name string, data []byte) call {
	return call{fmt.Sprintf("Write(%.40q, %d bytes)", name, len(data)), func(s store) string { return s.Write(name, data).Error() }}
}

func callRename(from, to string) call {
	return call{fmt.Sprintf("Rename(%.40q, %.40q)", from, to), func(s store) string { return s.Rename(from, to).Error() }}
}

func callRemove(name string) call {
	return call{fmt.Sprintf("Remove(%.40q)", name), func(s store) string { return s.Remove(name).Error() }}
}

func callRead(name string) call {
	return call{fmt.Sprintf("Read(%.40q)", name), func(s store) string {
		data, errno := s.Read(name)
		return errno.Error() + ":" + string(data)
	}}
}

func callNames() call {
	return call{"Names", func(s store) string { return strings.Join(s.Names(), " ") }}
}

func callCut(n, keep int) call {
	return call{fmt.Sprintf("Cut(%d, %d)", n, keep), func(s store) string { return s.Cut(n, keep).Error() }}
}

func callRestart() call {
	return call{"Restart", func(s store) string { return s.Restart().Error() }}
}

// contents are what a disk tells of all its files.
func contents(s store) string {
	var b strings.Builder
	for _, name := range s.Names() {
		data, errno := s.Read(name)
		fmt.Fprintf(&b, "%s %v %d:%s\n", name, errno, len(data), data)
	}
	return b.String()
}

// checkCalls makes the calls of a new disk and of a journal, and holds their answers against each other, and what is there behind a restart.
func checkCalls(t *testing.T, calls []call) {
	t.Helper()
	d, j := New(), &journal{}
	for i, c := range calls {
		if got, want := c.make(d), c.make(j); got != want {
			fail(t, "behind %s: %s = %.100q; want %.100q", told(calls[:i]), c.name, got, want)
		}
	}
	for range 2 {
		if got, want := contents(d), contents(j); got != want {
			fail(t, "behind %s: %.100q is there; want %.100q", told(calls), got, want)
		}
		d.Restart()
		j.Restart()
	}
}

// told are the last names of calls.
func told(calls []call) string {
	var names []string
	for _, c := range calls[max(0, len(calls)-12):] {
		names = append(names, c.name)
	}
	return strings.Join(names, ", ")
}

// Every list of up to five calls out of these.
func TestEveryShortListOfCalls(t *testing.T) {
	kinds := []call{
		callWrite("a", []byte("abc")), callWrite("b", nil), callWrite("A", nil),
		callRename("a", "b"), callRename("b", "a"), callRename("a", "a"), callRemove("a"), callRemove("b"),
		callCut(0, -1), callCut(0, 0), callCut(0, 1), callCut(1, 2), callCut(2, 1), callRestart(),
	}
	most := 5
	if testing.Short() {
		most = 4
	}
	var put func(list []call)
	put = func(list []call) {
		checkCalls(t, list)
		if len(list) == most {
			return
		}
		for _, c := range kinds {
			put(append(slices.Clip(list), c))
		}
	}
	put(nil)
}

// source is where the numbers of a list of calls come from: a random one, or a fuzzer's bytes.
type source interface{ Intn(n int) int }

func oneOf[T any](r source, list ...T) T { return list[r.Intn(len(list))] }

func someName(r source) string {
	if r.Intn(25) == 0 {
		return oneOf(r, "", "A", "a b", "é", "a/b", strings.Repeat("a", 33), strings.Repeat("é", 32), "a\xff")
	}
	return oneOf(r, "a", "b", "c", "a", "b", "c", "ab", ".", "0", "drift", "drift.new", "drift.old", strings.Repeat("a", 32))
}

func someData(r source) []byte {
	if r.Intn(100) == 0 {
		return rising(oneOf(r, 65535, 65536, 65536, 65537, 65537, 70000), r.Intn(251))
	}
	if r.Intn(10) == 0 {
		return nil
	}
	return rising(r.Intn(12), r.Intn(251))
}

func someCall(r source) call {
	switch r.Intn(20) {
	case 0, 1, 2, 3, 4:
		return callWrite(someName(r), someData(r))
	case 5, 6, 7, 8:
		return callRename(someName(r), someName(r))
	case 9, 10:
		return callRemove(someName(r))
	case 11, 12:
		return callRead(someName(r))
	case 13:
		return callNames()
	case 14, 15:
		return callCut(oneOf(r, -1, 0, 0, 1, 2, 3, r.Intn(12)), oneOf(r, math.MinInt, -1, -1, 0, 0, 1, 1, 2, 5, 65536, math.MaxInt))
	default:
		return callRestart()
	}
}

func TestRandomCalls(t *testing.T) {
	r := rand.New(rand.NewSource(111))
	for range 3000 {
		var calls []call
		for range r.Intn(120) {
			calls = append(calls, someCall(r))
		}
		checkCalls(t, calls)
	}
}

// The random calls are of use only if each answer comes often.
func TestRandomCallsComeToEveryAnswer(t *testing.T) {
	r := rand.New(rand.NewSource(112))
	count := map[string]int{}
	for range 500 {
		d := New()
		for range 60 {
			c := someCall(r)
			kind, _, _ := strings.Cut(c.name, "(")
			answer, _, _ := strings.Cut(c.make(d), ":")
			count[kind+" "+answer]++
		}
	}
	for _, kind := range []string{
		"Write E0", "Write E50", "Write E4", "Write E21", "Rename E0", "Rename E50", "Rename E4", "Rename E5",
		"Remove E0", "Remove E50", "Remove E4", "Remove E5", "Read E0", "Read E50", "Read E4", "Read E5", "Cut E0", "Cut E2", "Restart E0",
	} {
		if count[kind] < 10 {
			t.Errorf("%s comes %d times", kind, count[kind])
		}
	}
}

// P11.2: what is read is what was written last, over many calls without a Cut.
func TestManyChangesWithPower(t *testing.T) {
	r := rand.New(rand.NewSource(113))
	d, held := New(), files{}
	for range 20000 {
		one, two, data := someName(r), someName(r), someData(r)
		switch r.Intn(3) {
		case 0:
			if d.Write(one, data) == api.OK {
				held = held.with(one, string(data))
			}
		case 1:
			if d.Rename(one, two) == api.OK {
				held = held.without(one).with(two, held[one])
			}
		case 2:
			if d.Remove(one) == api.OK {
				held = held.without(one)
			}
		}
		if got := d.Names(); !slices.Equal(got, held.names()) {
			fail(t, "Names = %q; want %q", got, held.names())
		}
	}
	checkHeld(t, d, held)
}

// choices are numbers out of bytes; 0, where there are none any more.
type choices struct{ bytes []byte }

func (c *choices) Intn(n int) int {
	if len(c.bytes) == 0 {
		return 0
	}
	b := c.bytes[0]
	c.bytes = c.bytes[1:]
	return int(b) % n
}

func FuzzCalls(f *testing.F) {
	f.Add([]byte("\x00\x01\x00\x01\x01\x03\x04\x0e\x01\x02\x05\x01\x00\x01\x01\x13"))
	f.Fuzz(func(t *testing.T, b []byte) {
		var calls []call
		for c := (&choices{b}); len(c.bytes) > 0; {
			calls = append(calls, someCall(c))
		}
		checkCalls(t, calls)
	})
}
