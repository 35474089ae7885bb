package hull

import (
	"slices"
	"sync"
	"testing"

	"sundial/api"
)

// someLists are right ones, and wrong ones.
func someLists() [][]api.Span {
	return append(wrongLists(), nil, spans(3, 8), spans(100, 101, 5, 15, 0, 10), spans(9, 9, 7, 7, 5, 5, 3, 3), nested(3), apart(3), nested(31), apart(32), spans(3, far, -far, 4))
}

func callAll(list []api.Span) {
	for _, f := range budgets() {
		Hull(list, f)
	}
	for _, at := range append(strangeTimes(), 0, 5, far, -far) {
		Held(list, at)
	}
	for _, s := range append(noSpans(), span(0, 0), span(5, 10), span(-far, far)) {
		Liars(list, s)
	}
}

// Rule 3: a list that is handed in stays, and what stands ahead of it and behind it.
func TestWhatIsHandedInStays(t *testing.T) {
	for _, list := range someLists() {
		for _, spare := range []int{0, 1, 40} {
			all := slices.Concat(nested(spare), list, apart(spare))
			was := slices.Clone(all)
			callAll(all[spare : spare+len(list)])
			if !slices.Equal(all, was) {
				fail(t, "the calls with %v and %v spare change them to %v", list, spare, all)
			}
		}
	}
}

// A list that is changed between two calls is answered as what it has become.
func TestNothingIsKept(t *testing.T) {
	list := spans(0, 10, 5, 15, 100, 101)
	checkHull(t, list, 1, span(5, 10))
	checkLiars(t, list, span(5, 10), 2)
	checkHeld(t, list, 7, 2)
	list[0] = span(90, 100)
	checkHull(t, list, 1, span(100, 100))
	checkLiars(t, list, span(5, 10), 0, 2)
	checkHeld(t, list, 7, 1)
	refuseHull(t, list, 0, api.ErrBudget)
	list[1] = span(15, 5)
	refuseHull(t, list, 1, api.ErrShape)
	list[1] = span(5, 115)
	checkHull(t, list, 0, span(100, 100))
}

func TestLiarsAreNewMemory(t *testing.T) {
	for _, n := range []int{1, 2, 3, 31, 32} {
		list := apart(n)
		one, _ := Liars(list, span(-5, -1))
		two, _ := Liars(list, span(-5, -1))
		if len(one) != n {
			fail(t, "Liars are %v; want all of %v", one, n)
		}
		was := slices.Clone(two)
		for i := range one[:cap(one)] {
			one[:cap(one)][i] = -7
		}
		if !slices.Equal(two, was) || !slices.Equal(list, apart(n)) {
			fail(t, "a change of an answer changes another one to %v, or the list to %v", two, list)
		}
		checkLiars(t, list, span(-5, -1), was...)
	}
}

// Calls side by side on one list: they only read it.
func TestSideBySide(t *testing.T) {
	list := nested(32)
	var all sync.WaitGroup
	for i := range 8 {
		all.Go(func() {
			for f := range 32 {
				want := span(-api.Time(f), 10*api.Time(f))
				if h, errno := Hull(list, f); h != want || errno != api.OK {
					t.Errorf("Hull with %d = %v, %v; want %v", f, h, errno, want)
				}
				if liars, errno := Liars(list, span(-api.Time(i), -api.Time(i))); len(liars) != i || errno != api.OK {
					t.Errorf("Liars of %d = %v, %v", i, liars, errno)
				}
				if n, errno := Held(list, -api.Time(i)); n != 32-i || errno != api.OK {
					t.Errorf("Held at -%d = %d, %v", i, n, errno)
				}
			}
		})
	}
	all.Wait()
}
