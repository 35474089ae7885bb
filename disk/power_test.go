package disk

import (
	"fmt"
	"math"
	"strings"
	"testing"

	"sundial/api"
)

// keeps are what a Cut is asked to keep: below 0, 0, 1, about as many bytes as the changes below write, and more.
var keeps = []int{math.MinInt, -65536, -2, -1, 0, 1, 2, 4, 5, 6, 7, 100, 65535, 65536, 65537, 1 << 32, math.MaxInt}

// held is what the disks of these tests hold at first.
func held() files { return files{"a": "abcdef", "b": "xyz", "c": ""} }

// change is a change: how it is made, and what is left of files f if the power goes out at it.
type change struct {
	name string
	call func(d *Disk) api.Errno
	left func(f files, keep int) files
}

func writing(name string, data []byte) change {
	return change{
		fmt.Sprintf("Write of %q, %d bytes", name, len(data)),
		func(d *Disk) api.Errno { return d.Write(name, data) },
		func(f files, keep int) files {
			if keep < 0 {
				return f
			}
			return f.with(name, string(data[:min(keep, len(data))]))
		},
	}
}

func renaming(from, to string) change {
	return change{
		fmt.Sprintf("Rename of %q to %q", from, to),
		func(d *Disk) api.Errno { return d.Rename(from, to) },
		func(f files, keep int) files {
			if keep <= 0 {
				return f
			}
			return f.without(from).with(to, f[from])
		},
	}
}

func removing(name string) change {
	return change{
		fmt.Sprintf("Remove of %q", name),
		func(d *Disk) api.Errno { return d.Remove(name) },
		func(f files, keep int) files {
			if keep <= 0 {
				return f
			}
			return f.without(name)
		},
	}
}

// changes are of every kind that held allows, of files that are there and of such that are not.
func changes() []change {
	list := []change{
		renaming("a", "new"), renaming("a", "b"), renaming("b", "a"), renaming("a", "c"), renaming("c", "a"), renaming("c", "new"),
		renaming("a", "a"), renaming("b", "b"), renaming("c", "c"),
		removing("a"), removing("b"), removing("c"),
	}
	for _, name := range []string{"new", "a", "b", "c", "0", "zz", strings.Repeat("q", 32)} {
		for _, n := range []int{0, 1, 2, 5, 6, 7, 65535, 65536} {
			list = append(list, writing(name, rising(n, 9)))
		}
		list = append(list, writing(name, nil))
	}
	return list
}

// checkGoesOut: d holds what held is; the power goes out at the change c, comes back, and what is there is what keep allows.
func checkGoesOut(t *testing.T, d *Disk, c change, keep int) {
	t.Helper()
	want(t, c.name+", the power going out at it", c.call(d), api.ErrDown)
	want(t, c.name+", the power out", c.call(d), api.ErrDown)
	want(t, "Restart", d.Restart(), api.OK)
	checkHeld(t, d, c.left(held(), keep))
}

// checkNoCut: no Cut is to come.
func checkNoCut(t *testing.T, d *Disk) {
	t.Helper()
	was := look(t, d)
	for i := range 12 {
		want(t, "Write, no Cut to come", d.Write("later", rising(i, i)), api.OK)
		want(t, "Rename, no Cut to come", d.Rename("later", "even.later"), api.OK)
		want(t, "Rename to itself, no Cut to come", d.Rename("even.later", "even.later"), api.OK)
		want(t, "Remove, no Cut to come", d.Remove("even.later"), api.OK)
	}
	checkHeld(t, d, was)
}

// countDown makes n changes at which the power stays on; behind them d, which held what held is, holds it again.
func countDown(t *testing.T, d *Disk, n int) {
	t.Helper()
	for i := range n {
		errno := api.OK
		switch {
		case i%2 == 1:
			errno = d.Remove("ahead")
		case i < n-1:
			errno = d.Write("ahead", []byte("ahead"))
		default:
			errno = d.Rename("b", "b")
		}
		want(t, fmt.Sprintf("the change %d of %d ahead of the power going out", i, n), errno, api.OK)
	}
}

// P11.2, P11.4: at the n-th change the power goes out, at none ahead of it, and keep says how far it comes.
func TestPowerGoesOut(t *testing.T) {
	for _, c := range changes() {
		for _, keep := range keeps {
			for _, n := range []int{0, 1, 2, 3} {
				d := diskOf(t, held())
				want(t, "Cut", d.Cut(n, keep), api.OK)
				countDown(t, d, n)
				checkHeld(t, d, held())
				checkGoesOut(t, d, c, keep)
			}
		}
	}
}

func TestPowerGoesOutLate(t *testing.T) {
	for n := range 50 {
		for _, keep := range []int{-1, 0, 1, 3} {
			d := diskOf(t, held())
			want(t, "Cut", d.Cut(n, keep), api.OK)
			countDown(t, d, n)
			checkGoesOut(t, d, writing("a", rising(9, n)), keep)
		}
	}
	d := diskOf(t, held())
	want(t, "Cut", d.Cut(1000, 1), api.OK)
	for range 1000 {
		want(t, "Write", d.Write("a", []byte("abcdef")), api.OK)
	}
	checkGoesOut(t, d, removing("b"), 1)
}

func TestPowerGoesOutVeryLate(t *testing.T) {
	for _, n := range []int{1 << 31, 1 << 32, 1 << 33, math.MaxInt - 1, math.MaxInt} {
		d := diskOf(t, held())
		want(t, "Cut", d.Cut(n, -1), api.OK)
		checkNoCut(t, d)
		checkHeld(t, d, held())
	}
}

// What is read while the power is out is nothing, and it stays out, whatever is asked of the disk.
func TestEveryCallWhileThePowerIsOut(t *testing.T) {
	for _, keep := range []int{-1, 0, 1, 2, 9} {
		for _, c := range []change{writing("a", []byte("new")), writing("new", []byte("new")), renaming("a", "b"), removing("a")} {
			d := diskOf(t, held())
			want(t, "Cut", d.Cut(0, keep), api.OK)
			want(t, c.name, c.call(d), api.ErrDown)
			for range 3 {
				checkOut(t, d)
				want(t, "Cut, the power out", d.Cut(0, 9), api.OK)
				want(t, "Cut below 0, the power out", d.Cut(-1, 9), api.ErrRange)
				checkOut(t, d)
			}
			want(t, "Restart", d.Restart(), api.OK)
			checkHeld(t, d, c.left(held(), keep))
			checkNoCut(t, d)
		}
	}
}

// A Cut that was asked while the power was out is taken back by the Restart.
func TestCutWhileThePowerIsOut(t *testing.T) {
	for n := range 4 {
		for _, keep := range []int{-1, 0, 1, 9} {
			d := diskOf(t, held())
			want(t, "Cut", d.Cut(0, -1), api.OK)
			want(t, "Remove", d.Remove("a"), api.ErrDown)
			want(t, "Cut, the power out", d.Cut(n, keep), api.OK)
			for range n + 1 {
				want(t, "Write, the power out", d.Write("new", []byte("abc")), api.ErrDown)
			}
			checkOut(t, d)
			want(t, "Cut, the power out", d.Cut(n, keep), api.OK)
			want(t, "Restart", d.Restart(), api.OK)
			checkHeld(t, d, held())
			checkNoCut(t, d)
		}
	}
}

// The power goes out once: behind the Restart no Cut is to come.
func TestOneCutIsOneCut(t *testing.T) {
	for n := range 4 {
		for _, keep := range []int{-1, 0, 1, 9} {
			for _, c := range []change{writing("a", []byte("new")), renaming("a", "b"), removing("a")} {
				d := diskOf(t, held())
				want(t, "Cut", d.Cut(n, keep), api.OK)
				countDown(t, d, n)
				checkGoesOut(t, d, c, keep)
				checkNoCut(t, d)
			}
		}
	}
}

// P11.4: Cut's answers.
func TestCutOfNumbers(t *testing.T) {
	for _, keep := range keeps {
		for _, n := range []int{math.MinInt, -1 << 32, -65536, -2, -1} {
			d := diskOf(t, held())
			want(t, "Cut below 0", d.Cut(n, keep), api.ErrRange)
			checkNoCut(t, d)
			checkHeld(t, d, held())
		}
		for _, n := range []int{0, 1, 2, 65536, math.MaxInt} {
			d := diskOf(t, held())
			want(t, "Cut", d.Cut(n, keep), api.OK)
			checkHeld(t, d, held())
		}
	}
}

// A Cut below 0 leaves one that is to come.
func TestCutBelowNought(t *testing.T) {
	for _, keep := range []int{-1, 0, 1, 9} {
		for n := range 3 {
			d := diskOf(t, held())
			want(t, "Cut", d.Cut(n, 2), api.OK)
			want(t, "Cut below 0", d.Cut(-1, keep), api.ErrRange)
			countDown(t, d, n)
			want(t, "Cut below 0", d.Cut(math.MinInt, keep), api.ErrRange)
			checkGoesOut(t, d, writing("a", []byte("new")), 2)
		}
	}
}

// A later Cut takes the place of one that has not come yet, and counts from then on.
func TestCutInPlaceOfAnother(t *testing.T) {
	for first := range 5 {
		for ahead := range first + 1 {
			for second := range 5 {
				d := diskOf(t, held())
				want(t, "Cut", d.Cut(first, 1), api.OK)
				countDown(t, d, ahead)
				want(t, "Cut", d.Cut(second, 4), api.OK)
				countDown(t, d, second)
				checkGoesOut(t, d, writing("a", rising(9, 1)), 4)
				checkNoCut(t, d)
			}
		}
	}
	d := diskOf(t, held())
	for n := range 100 {
		want(t, "Cut", d.Cut(n%3, n), api.OK)
	}
	checkGoesOut(t, d, writing("new", rising(100, 1)), 99)
}

// refused are calls that are no changes, and their answers.
var refused = []struct {
	name   string
	call   func(d *Disk) api.Errno
	answer api.Errno
}{
	{"Write of no name", func(d *Disk) api.Errno { return d.Write("", nil) }, api.ErrText},
	{"Write of A", func(d *Disk) api.Errno { return d.Write("A", []byte("abc")) }, api.ErrText},
	{"Write of a long name", func(d *Disk) api.Errno { return d.Write(strings.Repeat("a", 33), nil) }, api.ErrText},
	{"Write of too much", func(d *Disk) api.Errno { return d.Write("a", make([]byte, 65537)) }, api.ErrLong},
	{"Write of too much, of a new file", func(d *Disk) api.Errno { return d.Write("new", make([]byte, 65537)) }, api.ErrLong},
	{"Rename of A", func(d *Disk) api.Errno { return d.Rename("A", "b") }, api.ErrText},
	{"Rename to A", func(d *Disk) api.Errno { return d.Rename("a", "A") }, api.ErrText},
	{"Rename of A to itself", func(d *Disk) api.Errno { return d.Rename("A", "A") }, api.ErrText},
	{"Rename of no file", func(d *Disk) api.Errno { return d.Rename("none", "a") }, api.ErrNone},
	{"Rename of no file to itself", func(d *Disk) api.Errno { return d.Rename("none", "none") }, api.ErrNone},
	{"Remove of A", func(d *Disk) api.Errno { return d.Remove("A") }, api.ErrText},
	{"Remove of no file", func(d *Disk) api.Errno { return d.Remove("none") }, api.ErrNone},
	{"Read", func(d *Disk) api.Errno { _, errno := d.Read("a"); return errno }, api.OK},
	{"Read of A", func(d *Disk) api.Errno { _, errno := d.Read("A"); return errno }, api.ErrText},
	{"Read of no file", func(d *Disk) api.Errno { _, errno := d.Read("none"); return errno }, api.ErrNone},
	{"Names", func(d *Disk) api.Errno { d.Names(); return api.OK }, api.OK},
	{"Cut below 0", func(d *Disk) api.Errno { return d.Cut(-1, -1) }, api.ErrRange},
}

// Calls that are refused for their arguments don't count, and the power doesn't go out at them.
func TestRefusedCallsDoNotCount(t *testing.T) {
	for n := range 4 {
		for _, keep := range []int{-1, 0, 1, 3, 9} {
			for _, r := range refused {
				d := diskOf(t, held())
				want(t, "Cut", d.Cut(n, keep), api.OK)
				for i := range n + 1 {
					for range 3 {
						want(t, r.name, r.call(d), r.answer)
					}
					if i < n {
						countDown(t, d, 1)
					}
				}
				checkHeld(t, d, held())
				checkGoesOut(t, d, writing("a", []byte("newer")), keep)
				checkNoCut(t, d)
			}
		}
	}
}

// Where two things are wrong, what the promise names first is the answer.
func TestTwoFaults(t *testing.T) {
	long := make([]byte, 65537)
	for _, due := range []bool{false, true} {
		d := diskOf(t, held())
		if due {
			want(t, "Cut", d.Cut(0, 2), api.OK)
		}
		want(t, "Write of a wrong name and too much", d.Write("A", long), api.ErrText)
		want(t, "Write of no name and too much", d.Write("", long), api.ErrText)
		want(t, "Rename of a wrong name to a wrong name", d.Rename("A", "B"), api.ErrText)
		want(t, "Rename of no file to a wrong name", d.Rename("none", "B"), api.ErrText)
		want(t, "Rename of a wrong name to a file", d.Rename("B", "a"), api.ErrText)
		want(t, "Rename of a wrong name to no file", d.Rename("B", "none"), api.ErrText)
		want(t, "Rename of a file to a wrong name", d.Rename("a", "B"), api.ErrText)
		checkHeld(t, d, held())
		if !due {
			want(t, "Cut", d.Cut(0, 2), api.OK)
		}
		want(t, "Write of too much", d.Write("a", long), api.ErrLong)
		want(t, "Rename of no file", d.Rename("none", "a"), api.ErrNone)
		want(t, "Remove of no file", d.Remove("none"), api.ErrNone)
		checkGoesOut(t, d, writing("a", []byte("newer")), 2)
	}
}

// P11.4: Restart, the power on or out, a Cut to come or not.
func TestRestart(t *testing.T) {
	for _, keep := range []int{-1, 0, 1, 9} {
		for n := range 4 {
			for ahead := range n + 1 {
				d := diskOf(t, held())
				want(t, "Restart", d.Restart(), api.OK)
				checkHeld(t, d, held())
				want(t, "Cut", d.Cut(n, keep), api.OK)
				countDown(t, d, ahead)
				want(t, "Restart, a Cut to come", d.Restart(), api.OK)
				checkHeld(t, d, held())
				checkNoCut(t, d)
				want(t, "Cut", d.Cut(n, keep), api.OK)
				countDown(t, d, n)
				checkGoesOut(t, d, removing("a"), keep)
				want(t, "Restart once more", d.Restart(), api.OK)
				checkHeld(t, d, removing("a").left(held(), keep))
				checkNoCut(t, d)
			}
		}
	}
}

// P11.5: wherever the power goes out in many changes, all is there that was there, but for what the one change did.
func TestWhatWasThereIsThere(t *testing.T) {
	list := []change{
		writing("new", []byte("newer")), renaming("a", "old"), renaming("new", "a"), removing("b"), writing("c", []byte("12345")),
		renaming("c", "c"), writing("a", nil), renaming("a", "c"), removing("old"), writing("b", []byte("b")),
	}
	for n := range list {
		for _, keep := range []int{-1, 0, 1, 2, 3, 9} {
			d, twin := diskOf(t, held()), diskOf(t, held())
			want(t, "Cut", d.Cut(n, keep), api.OK)
			for _, c := range list[:n] {
				want(t, c.name, c.call(d), api.OK)
				want(t, c.name, c.call(twin), api.OK)
			}
			want(t, list[n].name, list[n].call(d), api.ErrDown)
			for _, c := range list[n:] {
				want(t, c.name, c.call(d), api.ErrDown)
			}
			want(t, "Restart", d.Restart(), api.OK)
			checkHeld(t, d, list[n].left(look(t, twin), keep))
			checkNoCut(t, d)
		}
	}
}
