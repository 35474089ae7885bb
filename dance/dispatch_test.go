package dance

import (
	"slices"
	"testing"
)

// table is the chapter's: what is written at an association's mode, by the packet's mode less 1.
var table = map[int][]Action{
	0: {Passive, Discard, Reply, Discard, Listen},
	1: {Process, Process, Discard, Discard, Discard},
	2: {Process, Reset, Discard, Discard, Discard},
	3: {Discard, Discard, Discard, Process, Discard},
	5: {Discard, Discard, Discard, Discard, Discard},
	6: {Discard, Discard, Discard, Discard, Process},
}

// P19.1: every association's mode with every packet's mode says what the table says.
func TestDispatchByTheTable(t *testing.T) {
	for assoc, row := range table {
		for i, want := range row {
			checkDispatch(t, assoc, i+1, want)
		}
	}
}

// P19.1: what is no mode of associations, or not from 1 to 5, is refused, whatever stands beside it.
func TestDispatchOfOtherNumbers(t *testing.T) {
	for _, assoc := range someInts {
		for _, packet := range someInts {
			row, ok := table[assoc]
			if ok && packet >= 1 && packet <= 5 {
				checkDispatch(t, assoc, packet, row[packet-1])
			} else {
				refuseDispatch(t, assoc, packet)
			}
		}
	}
	for _, assoc := range []int{-1, 4, 7, 8} {
		for packet := -1; packet <= 9; packet++ {
			refuseDispatch(t, assoc, packet)
		}
	}
	for assoc := range table {
		for _, packet := range []int{-1, 0, 6, 7, 8} {
			refuseDispatch(t, assoc, packet)
		}
	}
}

// P19.1: what is done, said the other way round: by whom a thing is done.
func TestDispatchByWhatIsDone(t *testing.T) {
	done := map[Action][][2]int{
		Process: {{1, 1}, {1, 2}, {2, 1}, {3, 4}, {6, 5}},
		Reply:   {{0, 3}},
		Passive: {{0, 1}},
		Listen:  {{0, 5}},
		Reset:   {{2, 2}},
	}
	for action := Discard + 1; action <= Reset; action++ {
		var pairs [][2]int
		for assoc := range 7 {
			for packet := range 8 {
				if a, _ := Dispatch(assoc, packet); a == action {
					pairs = append(pairs, [2]int{assoc, packet})
				}
			}
		}
		if !slices.Equal(pairs, done[action]) {
			fail(t, "%d is done at %v; want %v", action, pairs, done[action])
		}
	}
}
