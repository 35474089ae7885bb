package hint

import (
	"fmt"
	"maps"
	"math"
	"math/rand"
	"slices"
	"testing"

	"sundial/api"
	"sundial/disk"
)

// cut is a Cut that is asked ahead of a Save.
type cut struct{ n, keep int }

// keeps are those at the edges, and each number of bytes of a text.
func keeps(text string) []int {
	list := []int{math.MinInt, -2, -1, math.MaxInt}
	for n := range len(text) + 3 {
		list = append(list, n)
	}
	return list
}

// begin is a disk behind some Saves: 1, 2 and so on.
func begin(t *testing.T, saves int) *disk.Disk {
	t.Helper()
	d := disk.New()
	for i := range saves {
		want(t, "Save", Save(d, i+1), api.OK)
	}
	return d
}

// kept are the files behind a Write of text with keep.
func kept(f files, text string, keep int) files {
	g := maps.Clone(f)
	if keep >= 0 {
		g["drift.new"] = text[:min(keep, len(text))]
	}
	return g
}

// cutShort are the files behind a Save that is cut short, by the numbers of its changes: with "drift" there it has three, else two.
func cutShort(f files, text string, c cut) files {
	if c.n == 0 {
		return kept(f, text, c.keep)
	}
	written := kept(f, text, len(text))
	_, there := f["drift"]
	aside := maps.Clone(written)
	if there {
		aside["drift.old"] = f["drift"]
		delete(aside, "drift")
	}
	if c.n == 1 && there {
		if c.keep > 0 {
			return aside
		}
		return written
	}
	done := maps.Clone(aside)
	done["drift"] = text
	delete(done, "drift.new")
	if c.keep > 0 {
		return done
	}
	return aside
}

// changes is how many changes a Save onto f makes.
func changes(f files) int {
	if _, there := f["drift"]; there {
		return 3
	}
	return 2
}

// P12.2, P12.4: a Cut at each change of a Save, on a new disk, behind one Save, two and three.
func TestEveryCutOfASave(t *testing.T) {
	for saves := range 4 {
		for _, freq := range []int{7, -1000000000, 0} {
			for n := range 3 {
				for _, keep := range keeps(textOf(freq)) {
					d := begin(t, saves)
					f := look(t, d)
					want(t, "Cut", d.Cut(n, keep), api.OK)
					if n >= changes(f) {
						want(t, "Save", Save(d, freq), api.OK)
						checkLoad(t, d, clamped(freq), api.OK)
						continue
					}
					want(t, "Save", Save(d, freq), api.ErrDown)
					checkLoad(t, d, 0, api.ErrDown)
					want(t, "Restart", d.Restart(), api.OK)
					checkHeld(t, d, cutShort(f, textOf(freq), cut{n, keep}))
					checkLoadAfterCut(t, d, saves, n == changes(f)-1 && keep > 0, freq)
				}
			}
		}
	}
}

// checkLoadAfterCut holds Load against the Saves 1, 2 and so on, and one more that was cut short, its last change done or not.
func checkLoadAfterCut(t *testing.T, d *disk.Disk, saves int, done bool, freq int) {
	t.Helper()
	switch {
	case done:
		checkLoad(t, d, clamped(freq), api.OK)
	case saves == 0:
		checkLoad(t, d, 0, api.ErrNone)
	default:
		checkLoad(t, d, saves, api.OK)
	}
	want(t, "Save", Save(d, 8), api.OK)
	checkLoad(t, d, 8, api.OK)
}

// The chapter's examples: behind the Saves of 5 and 6.
func TestExamplesOfCuts(t *testing.T) {
	for c, freq := range map[cut]int{{0, 3}: 6, {1, 1}: 6, {2, 1}: 7, {2, 0}: 6, {1, 0}: 6, {0, -1}: 6, {0, 99}: 6} {
		d := disk.New()
		want(t, "Save", Save(d, 5), api.OK)
		want(t, "Save", Save(d, 6), api.OK)
		want(t, "Cut", d.Cut(c.n, c.keep), api.OK)
		want(t, "Save", Save(d, 7), api.ErrDown)
		want(t, "Restart", d.Restart(), api.OK)
		checkLoad(t, d, freq, api.OK)
	}
}

// P12.4: a Cut at a change behind those of a Save doesn't cut it short, but the next one; a Restart takes the Cut back.
func TestCutBehindASave(t *testing.T) {
	for saves := range 4 {
		for n := range 3 {
			for _, restarted := range []bool{false, true} {
				d := begin(t, saves)
				want(t, "Cut", d.Cut(changes(look(t, d))+n, 1), api.OK)
				want(t, "Save", Save(d, 7), api.OK)
				checkLoad(t, d, 7, api.OK)
				if restarted {
					want(t, "Restart", d.Restart(), api.OK)
					want(t, "Save", Save(d, 8), api.OK)
					checkLoad(t, d, 8, api.OK)
					continue
				}
				f := look(t, d)
				want(t, "Save", Save(d, 8), api.ErrDown)
				want(t, "Restart", d.Restart(), api.OK)
				checkHeld(t, d, cutShort(f, textOf(8), cut{n, 1}))
			}
		}
	}
}

// promised is what P12.4 lets Load tell: of which hints, and whether ErrNone.
type promised struct {
	hints []int
	none  bool
}

// saved is what P12.4 lets Load tell behind a Save that was not cut short.
func saved(freq int) promised { return promised{[]int{clamped(freq)}, false} }

// cutShort is what it lets Load tell behind a Save that was.
func (p promised) cutShort(freq int) promised {
	return promised{append(slices.Clip(p.hints), clamped(freq)), p.none}
}

// check holds Load against p, and tells what it may say from then on: just this.
func (p promised) check(t *testing.T, d *disk.Disk, way string) promised {
	t.Helper()
	freq, errno := Load(d)
	if errno == api.ErrNone && freq == 0 && p.none {
		return promised{nil, true}
	}
	if errno != api.OK || !slices.Contains(p.hints, freq) {
		fail(t, "behind %s: Load = %v, %v; want one of %v, or ErrNone: %v", way, freq, errno, p.hints, p.none)
	}
	// What was told once is there: only the power could have kept it from being told, not give it back.
	return promised{[]int{freq}, false}
}

// step is a Save, with a Cut ahead of it or not.
type step struct {
	freq  int
	isCut bool
	cut
}

func (s step) String() string {
	if s.isCut {
		return fmt.Sprintf("Cut(%d, %d) Save %d", s.n, s.keep, s.freq)
	}
	return fmt.Sprintf("Save %d", s.freq)
}

// checkSteps makes the steps, a Restart behind each one at which the power went out, and holds Load and all files against what is promised.
func checkSteps(t *testing.T, steps []step) {
	t.Helper()
	d, f := disk.New(), files{}
	p := promised{nil, true}
	for i, s := range steps {
		way := fmt.Sprint(steps[:i+1])
		if s.isCut {
			want(t, "Cut", d.Cut(s.n, s.keep), api.OK)
		}
		if s.isCut && s.n < changes(f) {
			want(t, way, Save(d, s.freq), api.ErrDown)
			f, p = cutShort(f, textOf(s.freq), s.cut), p.cutShort(s.freq)
		} else {
			want(t, way, Save(d, s.freq), api.OK)
			f, p = cutShort(f, textOf(s.freq), cut{changes(f) - 1, 1}), saved(s.freq)
		}
		want(t, "Restart", d.Restart(), api.OK)
		p = p.check(t, d, way)
		checkHeld(t, d, f)
	}
}

// P12.4: every list of up to four Saves, cut short in each way that differs or not, each with a hint of its own.
func TestEveryShortListOfSaves(t *testing.T) {
	ways := []step{
		{}, {isCut: true, cut: cut{0, -1}}, {isCut: true, cut: cut{0, 0}}, {isCut: true, cut: cut{0, 5}}, {isCut: true, cut: cut{0, 99}},
		{isCut: true, cut: cut{1, 0}}, {isCut: true, cut: cut{1, 1}}, {isCut: true, cut: cut{2, 0}}, {isCut: true, cut: cut{2, 1}}, {isCut: true, cut: cut{3, 1}},
	}
	var put func(list []step)
	put = func(list []step) {
		if len(list) == 4 {
			checkSteps(t, list)
			return
		}
		for _, s := range ways {
			s.freq = len(list) + 1
			put(append(slices.Clip(list), s))
		}
	}
	put(nil)
}

// P12.4: many Saves, Loads, Cuts and Restarts one behind the other, also Saves while the power is out.
func TestManySaves(t *testing.T) {
	for seed := range int64(300) {
		r := rand.New(rand.NewSource(seed))
		d, p, isOut := disk.New(), promised{nil, true}, false
		way := fmt.Sprint("the way of ", seed)
		for range 200 {
			switch freq := someHint(r); r.Intn(8) {
			case 0, 1, 2:
				switch errno := Save(d, freq); {
				case errno == api.OK && !isOut:
					p = saved(freq)
				case errno == api.ErrDown && !isOut:
					p, isOut = p.cutShort(freq), true
				case errno != api.ErrDown:
					fail(t, "%v: Save = %v", way, errno)
				}
			case 3, 4:
				want(t, "Cut", d.Cut(r.Intn(8), r.Intn(30)-2), api.OK)
			case 5:
				want(t, "Save of no hint", Save(d, 1000000001+r.Intn(5)), api.ErrRange)
			case 6:
				want(t, "Restart", d.Restart(), api.OK)
				isOut = false
			case 7:
				if isOut {
					checkLoad(t, d, 0, api.ErrDown)
				} else {
					p = p.check(t, d, way)
				}
			}
		}
	}
}

func FuzzSaves(f *testing.F) {
	f.Add([]byte("\x00\x00\x05\x01\x00\x06\x12\x01\x07"))
	f.Fuzz(func(t *testing.T, b []byte) {
		var steps []step
		for ; len(b) >= 3 && len(steps) < 200; b = b[3:] {
			steps = append(steps, step{int(int8(b[0])) * 7000, b[1]%3 > 0, cut{int(b[1]) / 3 % 5, int(int8(b[2]))}})
		}
		checkSteps(t, steps)
	})
}
