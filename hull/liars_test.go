package hull

import (
	"slices"
	"testing"

	"sundial/api"
)

// P15.3
func TestLiars(t *testing.T) {
	first := spans(0, 10, 5, 15, 100, 101)
	for _, r := range []struct {
		list []api.Span
		s    api.Span
		want []int
	}{
		{first, span(5, 10), []int{2}}, {first, span(0, 101), nil}, {first, span(5, 100), nil}, {first, span(11, 100), []int{0}}, {first, span(10, 100), nil},
		{first, span(16, 99), []int{0, 1, 2}}, {first, span(50, 50), []int{0, 1, 2}}, {first, span(15, 15), []int{0, 2}}, {first, span(4, 4), []int{1, 2}}, {first, span(101, 200), []int{0, 1}}, {first, span(102, 200), []int{0, 1, 2}}, {first, span(-5, -1), []int{0, 1, 2}}, {first, span(-5, 0), []int{1, 2}},
		// s touches at one time, and just not.
		{spans(3, 8), span(0, 2), []int{0}}, {spans(3, 8), span(0, 3), nil}, {spans(3, 8), span(8, 11), nil}, {spans(3, 8), span(9, 11), []int{0}},
		{spans(3, 8), span(2, 2), []int{0}}, {spans(3, 8), span(3, 3), nil}, {spans(3, 8), span(8, 8), nil}, {spans(3, 8), span(9, 9), []int{0}},
		// One in the other, alike, of one time.
		{spans(3, 8), span(4, 6), nil}, {spans(3, 8), span(1, 9), nil}, {spans(3, 8), span(3, 8), nil}, {spans(5, 5), span(5, 5), nil}, {spans(5, 5), span(1, 9), nil}, {spans(5, 5), span(6, 9), []int{0}}, {spans(5, 5), span(4, 4), []int{0}},
		{spans(-8, -3), span(3, 8), []int{0}}, {spans(-8, -3), span(-3, 8), nil}, {spans(-8, -3), span(-2, 8), []int{0}},
		// Each of those that are alike is told.
		{spans(1, 2, 1, 2, 7, 8, 1, 2), span(7, 7), []int{0, 1, 3}}, {spans(1, 2, 7, 8, 1, 2), span(2, 7), nil},
		{spans(9, 9, 7, 7, 5, 5, 3, 3, 1, 1), span(4, 8), []int{0, 3, 4}},
	} {
		checkLiars(t, r.list, r.s, r.want...)
	}
}

func TestLiarsAtTheBounds(t *testing.T) {
	list := spans(-far, far, -far, -far, far, far, -far, 3, 3, far, far-1, far-1)
	for _, r := range []struct {
		s    api.Span
		want []int
	}{
		{span(-far, far), nil}, {span(-far, -far), []int{2, 4, 5}}, {span(far, far), []int{1, 3, 5}}, {span(3, 3), []int{1, 2, 5}}, {span(2, 2), []int{1, 2, 4, 5}}, {span(4, 4), []int{1, 2, 3, 5}},
		{span(1-far, far-1), []int{1, 2}}, {span(-far, 2), []int{2, 4, 5}}, {span(4, far), []int{1, 3}}, {span(far-1, far), []int{1, 3}}, {span(-far, far-1), []int{2}}, {span(1-far, far), []int{1}},
	} {
		checkLiars(t, list, r.s, r.want...)
	}
}

// P15.3: ErrShape, too, if s is no span, however many spans there are.
func TestLiarsOfNoSpan(t *testing.T) {
	for _, list := range [][]api.Span{nil, {}, spans(0, 0), spans(-far, far), spans(1, 2), nested(2), apart(3), nested(31), apart(32)} {
		for _, s := range noSpans() {
			refuseLiars(t, list, s, api.ErrShape)
		}
	}
}

func TestLiarsOfManySpans(t *testing.T) {
	for _, n := range []int{1, 2, 3, 31, 32} {
		var all []int
		for i := range n {
			all = append(all, i)
		}
		checkLiars(t, apart(n), span(-3, -1), all...)
		checkLiars(t, apart(n), span(0, 10*api.Time(n)))
		checkLiars(t, nested(n), span(0, 0))
		checkLiars(t, nested(n), span(-far, -api.Time(n)), all...)
		for i := range n {
			others := slices.Delete(slices.Clone(all), i, i+1)
			checkLiars(t, apart(n), span(10*api.Time(i)+3, 10*api.Time(i)+9), others...)
			checkLiars(t, nested(n), span(-api.Time(i), -api.Time(i)), all[:i]...)
			list := slices.Repeat(spans(1, 2), n)
			list[i] = span(5, 6)
			checkLiars(t, list, span(1, 4), i)
			checkLiars(t, list, span(3, 5), others...)
		}
	}
}
