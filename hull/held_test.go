package hull

import (
	"testing"

	"sundial/api"
)

// P15.1
func TestHeldAtTheEnds(t *testing.T) {
	for _, r := range []struct {
		list []api.Span
		at   api.Time
		want int
	}{
		{spans(3, 8), 2, 0}, {spans(3, 8), 3, 1}, {spans(3, 8), 4, 1}, {spans(3, 8), 7, 1}, {spans(3, 8), 8, 1}, {spans(3, 8), 9, 0},
		{spans(5, 5), 4, 0}, {spans(5, 5), 5, 1}, {spans(5, 5), 6, 0}, {spans(-5, -5), -5, 1}, {spans(-5, -5), 5, 0},
		{spans(1, 5, 5, 9), 4, 1}, {spans(1, 5, 5, 9), 5, 2}, {spans(1, 5, 5, 9), 6, 1},
		{spans(1, 4, 5, 9), 4, 1}, {spans(1, 4, 5, 9), 5, 1}, {spans(1, 3, 5, 9), 4, 0},
		{spans(1, 9, 3, 5), 2, 1}, {spans(1, 9, 3, 5), 3, 2}, {spans(1, 9, 3, 5), 5, 2}, {spans(1, 9, 3, 5), 6, 1}, {spans(1, 9, 3, 5), 10, 0},
		{spans(2, 6, 2, 6, 2, 6), 2, 3}, {spans(2, 6, 2, 6, 2, 6), 6, 3}, {spans(2, 6, 2, 6, 2, 6), 1, 0}, {spans(2, 6, 2, 6, 2, 6), 7, 0},
		{spans(-6, -2, -3, 4, -1, 0), -3, 2}, {spans(-6, -2, -3, 4, -1, 0), -1, 2}, {spans(-6, -2, -3, 4, -1, 0), -7, 0}, {spans(-6, -2, -3, 4, -1, 0), 0, 2}, {spans(-6, -2, -3, 4, -1, 0), 1, 1},
		{spans(0, 10, 5, 15, 100, 101), 4, 1}, {spans(0, 10, 5, 15, 100, 101), 5, 2}, {spans(0, 10, 5, 15, 100, 101), 10, 2}, {spans(0, 10, 5, 15, 100, 101), 11, 1},
		{spans(0, 10, 5, 15, 100, 101), 15, 1}, {spans(0, 10, 5, 15, 100, 101), 16, 0}, {spans(0, 10, 5, 15, 100, 101), 99, 0}, {spans(0, 10, 5, 15, 100, 101), 101, 1}, {spans(0, 10, 5, 15, 100, 101), 102, 0},
	} {
		checkHeld(t, r.list, r.at, r.want)
	}
}

func TestHeldAtTheBounds(t *testing.T) {
	list := spans(-far, far, -far, -far, far, far, far-1, far, -far, 1-far, 1-far, far-1, -far, 0, 0, far)
	for at, want := range map[api.Time]int{-far: 4, 1 - far: 4, 2 - far: 3, -1: 3, 0: 4, 1: 3, far - 2: 3, far - 1: 4, far: 4} {
		checkHeld(t, list, at, want)
	}
	for _, list := range [][]api.Span{list, spans(-far, far), spans(0, 0), nested(31), nested(32)} {
		for _, at := range strangeTimes() {
			refuseHeld(t, list, at, api.ErrRange)
		}
	}
}

func TestHeldByMany(t *testing.T) {
	for _, n := range []int{1, 2, 3, 31, 32} {
		checkHeld(t, nested(n), 0, n)
		checkHeld(t, nested(n), -api.Time(n-1), 1)
		checkHeld(t, nested(n), -api.Time(n), 0)
		checkHeld(t, nested(n), api.Time(10*(n-1)), 1)
		checkHeld(t, nested(n), api.Time(10*(n-1)+1), 0)
		checkHeld(t, make([]api.Span, n), 0, n)
		checkHeld(t, make([]api.Span, n), 1, 0)
		checkHeld(t, make([]api.Span, n), -1, 0)
		for i := range api.Time(n) {
			checkHeld(t, apart(n), 10*i, 1)
			checkHeld(t, apart(n), 10*i+3, 1)
			checkHeld(t, apart(n), 10*i+4, 0)
			checkHeld(t, apart(n), 10*i-1, 0)
		}
	}
}
