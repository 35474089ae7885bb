package radio

import (
	"slices"
	"strings"
	"sync"
	"testing"

	"sundial/api"
)

// What holds of all calls: what is handed in stays, and nothing is kept.

func TestReadingsHandedInStay(t *testing.T) {
	for _, l := range [][]api.Time{{}, {5}, {9, 1}, {5, 1, 9}, {5, 100, 6, 7}, {far + 1, 3, 2}, {3, -far - 1, 2, 1}, {far, -far, 0}} {
		for spare := range 4 {
			// Room behind the readings, and ahead of them.
			all := slices.Concat([]api.Time{77}, l, slices.Repeat([]api.Time{-99}, spare))
			was := slices.Clone(all)
			Middle(all[1 : 1+len(l)])
			if !slices.Equal(all, was) {
				t.Errorf("%d became %d", was, all)
			}
		}
	}
}

func TestTablesHandedInStay(t *testing.T) {
	for _, l := range append(wrongTables(), putIn(), leftOut(), tableOf(0, 10)) {
		for spare := range 3 {
			all := slices.Concat([]api.Change{{At: 77, Offset: 77}}, l.Changes, slices.Repeat([]api.Change{{At: 99, Offset: 99}}, spare))
			was := slices.Clone(all)
			for _, x := range []api.Time{0, july - 1, july, -1} {
				Span(api.Leaps{Changes: all[1 : 1+len(l.Changes)], Expires: l.Expires}, x, 3)
				Span(api.Leaps{Changes: all[1 : 1+len(l.Changes)], Expires: l.Expires}, x, -3)
			}
			if !slices.Equal(all, was) {
				t.Errorf("%v became %v", was, all)
			}
		}
	}
}

func TestWhatIsHandedInIsNotKept(t *testing.T) {
	l := []api.Time{5, 1, 9}
	checkMiddle(t, l, 5, 8)
	l[0] = 100
	checkMiddle(t, l, 9, 99)
	checkMiddle(t, l[:2], 50, 99)
	leaps := putIn()
	checkSpan(t, leaps, july-1, 0, span(july-1+10*second, july-1+11*second))
	leaps.Changes[1].Offset = 9
	checkNoSpan(t, leaps, july-1, 0, api.ErrNone)
	leaps.Changes = leaps.Changes[:1]
	checkSpan(t, leaps, july-1, 0, span(july-1+10*second, july-1+10*second))
}

// Long lines and great lists end, too.
func TestGreatThings(t *testing.T) {
	checkBody(t, rmc("120000", "151126")+strings.Repeat(",", 1<<22), noon)
	checkNoTime(t, strings.Repeat(",", 1<<22), strings.Repeat("9", 1<<22), rmc("120000."+strings.Repeat("0", 1<<20), "151126"), rmc("120000", strings.Repeat("0", 1<<20)), "GPRMC,"+strings.Repeat("120000", 1<<20)+",A,,,,,,,151126")
	checkNoLine(t, strings.Repeat("$", 1<<22), strings.Repeat("*", 1<<22), "$"+strings.Repeat("0", 1<<22), "$*"+strings.Repeat("0", 1<<22))
	checkNoCode(t, strings.Repeat("T ", 1<<18), "T 2026 319 "+strings.Repeat("0", 1<<20), "T "+strings.Repeat("9", 1<<20)+" 319 120000", "T 2026 319 120000 "+strings.Repeat("0", 1<<20))
	checkCode(t, strings.Repeat(" ", 1<<20)+"T 2026 319 120000 #"+strings.Repeat("9", 1<<20), noon, api.OK)
	checkMiddle(t, make([]api.Time, 1<<20), 0, 0)
}

func TestAnswersHangOnTheArgumentsAlone(t *testing.T) {
	l := []api.Time{5, 100, 6, 7}
	var all sync.WaitGroup
	for range 8 {
		all.Go(func() {
			for range 1000 {
				if x, errno := NMEA(withSum(rmc("120000.5", "151126"))); x != noon+second/2 || errno != api.OK {
					t.Errorf("NMEA: %d, %v", x, errno)
				}
				if x, errno := Code("T 2026 319 120000 9"); x != 0 || errno != api.ErrNone {
					t.Errorf("Code: %d, %v", x, errno)
				}
				if x, errno := Pulse(span(second-1, second+1)); x != second || errno != api.OK {
					t.Errorf("Pulse: %d, %v", x, errno)
				}
				if m, spread, errno := Middle(l); m != 6 || spread != 95 || errno != api.OK {
					t.Errorf("Middle: %d, %d, %v", m, spread, errno)
				}
				if s, errno := Span(putIn(), july-1, 1); s != span(july-2+10*second, july+11*second) || errno != api.OK {
					t.Errorf("Span: %v, %v", s, errno)
				}
			}
		})
	}
	all.Wait()
}
