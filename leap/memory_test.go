package leap

import (
	"slices"
	"sync"
	"testing"

	"sundial/api"
)

// What holds of all calls: what is handed in stays, answers are new memory, and nothing is kept.

// eachCall makes every call that takes a table.
func eachCall(l api.Leaps) {
	Check(l)
	Format(l)
	for _, u := range []api.Time{0, a, a + seconds(10), -1} {
		UTC(l, u)
		Even(l, u)
		Warn(l, u)
		Face(l, u)
	}
}

func TestTablesHandedInStay(t *testing.T) {
	for _, l := range []api.Leaps{exampleTable(), tableOf(0, 10), tableOf(0, 10, 1, 12), tableOf(2, 10, 1, 11), {Changes: []api.Change{{At: 1}}}} {
		for _, spare := range []int{0, 1, 10} {
			// Room behind the table's changes, and ahead of them.
			all := append([]api.Change{{At: 77, Offset: 77}}, l.Changes...)
			for range spare {
				all = append(all, api.Change{At: 99, Offset: 99})
			}
			was := slices.Clone(all)
			eachCall(api.Leaps{Changes: all[1 : 1+len(l.Changes)], Expires: l.Expires})
			if !slices.Equal(all, was) {
				t.Errorf("%v became %v", was, all)
			}
		}
	}
}

func TestParseAnswersNewMemory(t *testing.T) {
	text := lines(exampleLines...)
	one, _ := Parse(text)
	two, _ := Parse(text)
	for i := range one.Changes {
		one.Changes[i] = api.Change{At: 7, Offset: 7}
	}
	_ = append(one.Changes, api.Change{At: 8, Offset: 8})
	if !same(two, exampleTable()) {
		t.Errorf("left is %v", two)
	}
	checkParse(t, text, exampleTable())
}

func TestEvenAnswersNewMemory(t *testing.T) {
	l := exampleTable()
	one, _ := Even(l, a-1)
	two, _ := Even(l, a-1)
	one[0], one[1] = 7, 7
	_ = append(one[:1], 8)
	if !slices.Equal(two, []api.Time{a + seconds(10) - 1, a + seconds(11) - 1}) || !same(l, exampleTable()) {
		t.Errorf("left are %d and %v", two, l)
	}
	checkEven(t, l, a-1, a+seconds(10)-1, a+seconds(11)-1)
}

func TestTablesAreNotKept(t *testing.T) {
	l := exampleTable()
	checkUTC(t, l, a+seconds(10), a-seconds(1), true)
	l.Changes[1].Offset = 9
	checkUTC(t, l, a+seconds(10), a+seconds(1), false)
	l.Changes = l.Changes[:1]
	checkUTC(t, l, a+seconds(10), a, false)
	l.Changes[0].Offset = 200
	checkUTC(t, l, a+seconds(10), a-seconds(190), false)
}

func TestAnswersHangOnTheArgumentsAlone(t *testing.T) {
	var all sync.WaitGroup
	for range 8 {
		all.Go(func() {
			for _, l := range []api.Leaps{exampleTable(), trueTable(), tableOf(0, 200, 1, 199)} {
				checkReadBack(t, l)
				for _, u := range edgeTimes(l) {
					checkTimesByWords(t, l, u)
					checkWarnByWords(t, l, u)
					checkFaceByWords(t, l, u)
				}
			}
		})
	}
	all.Wait()
}
