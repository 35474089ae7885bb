package osc

import (
	"math"
	"math/big"
	"math/rand"
	"slices"
	"testing"

	"sundial/api"
)

const (
	far     = api.Far
	longest = api.Time(api.MaxElapsed)
	most    = api.Time(math.MaxInt64)
	least   = api.Time(math.MinInt64)
)

var rightWays = [][]api.Leg{
	nil, {}, {{}}, {{Len: 0, Ppm: 1000}}, {{Len: 0, Ppm: -1000}, {}, {Len: 0, Ppm: 7}},
	{{Len: 1, Ppm: 0}}, {{Len: 1, Ppm: -1000}}, {{Len: 1, Ppm: 1000}}, {{Len: 3000000, Ppm: 200}},
	{{Len: 10, Ppm: -1000}, {Len: 10, Ppm: 1000}}, {{Len: 10, Ppm: 3}, {}, {Len: 5, Ppm: -3}, {Len: 0, Ppm: 1000}},
	{{Len: longest, Ppm: 0}}, {{Len: longest, Ppm: 1000}}, {{Len: longest, Ppm: -1000}},
	{{Len: longest - 1, Ppm: 1000}, {Len: 1, Ppm: -1000}}, {{Len: 1, Ppm: 1}, {Len: longest - 1, Ppm: -1}},
	{{Len: longest, Ppm: 5}, {Len: 0, Ppm: -1000}, {}}, {{}, {Len: longest, Ppm: 5}},
	{{Len: longest / 2, Ppm: 999}, {Len: longest / 2, Ppm: -999}},
	slices.Repeat([]api.Leg{{Len: longest / 1024, Ppm: 1}}, 1024),
}

var wrongWays = [][]api.Leg{
	{{Len: -1}}, {{Len: least}}, {{Len: longest + 1}}, {{Len: most}}, {{Len: 1 << 61}},
	{{Len: 1, Ppm: 1001}}, {{Len: 1, Ppm: -1001}}, {{Len: 0, Ppm: 1001}}, {{Len: 0, Ppm: -1001}},
	{{Len: 1, Ppm: math.MaxInt}}, {{Len: 1, Ppm: math.MinInt}},
	{{Len: longest}, {Len: 1}}, {{Len: 1}, {Len: longest}}, {{Len: longest}, {Len: longest}}, {{Len: longest / 2}, {Len: longest/2 + 1}},
	{{Len: 5}, {Len: -1}, {Len: 5}}, {{Len: 5}, {Len: 5}, {Len: 5, Ppm: 1001}}, {{Len: 5, Ppm: -1001}, {Len: 5}},
	// The sum comes back to a right one, or wraps round to one, if it is asked at the end only.
	{{Len: longest}, {Len: 1}, {Len: -1}}, {{Len: most}, {Len: most}, {Len: 2}}, {{Len: 1}, {Len: most}}, {{Len: 1}, {Len: most}, {Len: most}},
	append(slices.Repeat([]api.Leg{{Len: longest / 1024, Ppm: 1}}, 1024), api.Leg{Len: 1}),
}

func sumOfLens(way []api.Leg) api.Time {
	var sum api.Time
	for _, leg := range way {
		sum += leg.Len
	}
	return sum
}

// exactRaw is the chapter's raw count in exact numbers, gone through another way: by where each leg begins.
func exactRaw(way []api.Leg, t api.Time) api.Time {
	sum := new(big.Int)
	var begin api.Time
	for _, leg := range way {
		gone := t - begin
		if gone > leg.Len {
			gone = leg.Len
		}
		if gone > 0 {
			sum.Add(sum, new(big.Int).Mul(big.NewInt(int64(gone)), big.NewInt(int64(1000000+leg.Ppm))))
		}
		begin += leg.Len
	}
	return api.Time(sum.Div(sum, big.NewInt(1000000)).Int64())
}

// looks are the times of a way at which a count is likely to go wrong first: both ends, and around the end of each leg.
func looks(way []api.Leg) []api.Time {
	whole := sumOfLens(way)
	var all []api.Time
	var end api.Time
	for _, leg := range append([]api.Leg{{}}, way...) {
		end += leg.Len
		for _, t := range []api.Time{end - 1, end, end + 1, end - leg.Len/2} {
			if t >= 0 && t <= whole {
				all = append(all, t)
			}
		}
	}
	slices.Sort(all)
	return slices.Compact(all)
}

func randomWay(r *rand.Rand, rho int) []api.Leg {
	way := make([]api.Leg, r.Intn(6))
	left := longest
	for i := range way {
		way[i] = api.Leg{Len: api.Time(r.Int63n(int64(left)+1)) >> r.Intn(41), Ppm: r.Intn(2*rho+1) - rho}
		if r.Intn(3) == 0 {
			way[i].Ppm = rho * (r.Intn(3) - 1)
		}
		left -= way[i].Len
	}
	return way
}

// P2.1
func TestCheck(t *testing.T) {
	for _, way := range rightWays {
		if e := Check(way); e != api.OK {
			t.Errorf("Check(%.3v) = %v", way, e)
		}
	}
	for _, way := range wrongWays {
		if e := Check(way); e != api.ErrShape {
			t.Errorf("Check(%.3v) = %v", way, e)
		}
	}
}

func TestCheckOfOneLegAtItsEnds(t *testing.T) {
	for _, length := range []api.Time{-1, 0, 1, longest - 1, longest, longest + 1} {
		for _, ppm := range []int{-1001, -1000, -999, -1, 0, 1, 999, 1000, 1001} {
			want := api.OK
			if length < 0 || length > 1<<40 || ppm < -1000 || ppm > 1000 {
				want = api.ErrShape
			}
			if e := Check([]api.Leg{{Len: length, Ppm: ppm}}); e != want {
				t.Errorf("Check of %d at %d = %v; want %v", length, ppm, e, want)
			}
		}
	}
}

func TestRawExamples(t *testing.T) {
	one := []api.Leg{{Len: 3000000, Ppm: 200}}
	two := []api.Leg{{Len: 10, Ppm: -1000}, {Len: 10, Ppm: 1000}}
	gap := []api.Leg{{Len: 0, Ppm: 1000}, {Len: 1000, Ppm: 1000}, {Len: 0, Ppm: -1000}, {Len: 1000, Ppm: -1000}, {}}
	for _, r := range []struct {
		way     []api.Leg
		t, want api.Time
	}{
		{nil, 0, 0}, {[]api.Leg{}, 0, 0}, {[]api.Leg{{Len: 0, Ppm: 1000}}, 0, 0},
		{one, 0, 0}, {one, 1000000, 1000200}, {one, 3000000, 3000600}, {one, 4999, 4999}, {one, 5000, 5001},
		{two, 0, 0}, {two, 1, 0}, {two, 5, 4}, {two, 10, 9}, {two, 11, 10}, {two, 15, 14}, {two, 19, 18}, {two, 20, 20},
		{gap, 999, 999}, {gap, 1000, 1001}, {gap, 1001, 1001}, {gap, 1999, 1999}, {gap, 2000, 2000},
		{[]api.Leg{{Len: longest, Ppm: 0}}, longest, 1099511627776},
		{[]api.Leg{{Len: longest, Ppm: 1000}}, longest, 1100611139403}, {[]api.Leg{{Len: longest, Ppm: -1000}}, longest, 1098412116148},
	} {
		if got, e := Raw(r.way, r.t); got != r.want || e != api.OK {
			t.Errorf("Raw(%v, %d) = %d, %v; want %d", r.way, r.t, got, e, r.want)
		}
	}
}

func TestRawIsExact(t *testing.T) {
	check := func(way []api.Leg, at api.Time) {
		if got, e := Raw(way, at); got != exactRaw(way, at) || e != api.OK {
			t.Errorf("Raw(%.3v, %d) = %d, %v; want %d", way, at, got, e, exactRaw(way, at))
		}
	}
	for _, way := range rightWays {
		for _, at := range looks(way) {
			check(way, at)
		}
	}
	r := rand.New(rand.NewSource(1))
	for range 5000 {
		way := randomWay(r, api.MaxRho)
		for _, at := range append(looks(way), api.Time(r.Int63n(int64(sumOfLens(way))+1))) {
			check(way, at)
		}
	}
}

func TestRawRefusesTimes(t *testing.T) {
	for _, way := range rightWays {
		whole := sumOfLens(way)
		for _, at := range []api.Time{-1, whole + 1, -whole - 1, longest + 1, far, -far, most, least} {
			if got, e := Raw(way, at); got != 0 || e != api.ErrRange {
				t.Errorf("Raw(%.3v, %d) = %d, %v", way, at, got, e)
			}
		}
	}
}

// The way's shape is named ahead of the range of t.
func TestRawRefusesWays(t *testing.T) {
	for _, way := range wrongWays {
		for _, at := range []api.Time{0, 1, 10, longest, longest + 1, -1, most, least} {
			if got, e := Raw(way, at); got != 0 || e != api.ErrShape {
				t.Errorf("Raw(%.3v, %d) = %d, %v", way, at, got, e)
			}
		}
	}
}

func TestWaysAreNotChanged(t *testing.T) {
	for _, way := range append(slices.Clone(rightWays), wrongWays...) {
		room := append(slices.Clone(way), api.Leg{Len: 77, Ppm: 77})
		Check(room[:len(way)])
		Raw(room[:len(way)], sumOfLens(way))
		if !slices.Equal(room[:len(way)], way) || room[len(way)] != (api.Leg{Len: 77, Ppm: 77}) {
			t.Errorf("%.3v was changed", way)
		}
	}
}

// P2.4
func TestElapsedHoldsTheTrueTime(t *testing.T) {
	check := func(way []api.Leg, rho int, a, b api.Time) {
		first, e1 := Raw(way, a)
		second, e2 := Raw(way, b)
		if e1 != api.OK || e2 != api.OK || first > second {
			t.Fatalf("%.3v: counts %d, %d, %v, %v at %d, %d", way, first, second, e1, e2, a, b)
		}
		low, high, e := Elapsed(second-first, rho)
		if e != api.OK || b-a < low || b-a > high {
			t.Fatalf("%.3v by %d: from %d to %d the count %d says %d to %d, %v", way, rho, a, b, second-first, low, high, e)
		}
		// So a span that holds the true time at the first look holds it at the second one.
		s, e := Age(api.Span{Lo: a - 3, Hi: a + 5}, second-first, rho)
		if e != api.OK || s.Lo > b || s.Hi < b {
			t.Fatalf("%.3v by %d: from %d to %d the span is %v, %v", way, rho, a, b, s, e)
		}
	}
	r := rand.New(rand.NewSource(2))
	for range 1000 {
		rho := []int{0, 1, 500, 999, 1000, r.Intn(1001)}[r.Intn(6)]
		way := randomWay(r, rho)
		all := looks(way)
		for range 10 {
			all = append(all, api.Time(r.Int63n(int64(sumOfLens(way))+1)))
		}
		slices.Sort(all)
		for i, a := range all {
			for _, b := range all[i:] {
				check(way, rho, a, b)
			}
		}
	}
}

func TestElapsedHoldsTheTrueTimeTickByTick(t *testing.T) {
	for _, way := range [][]api.Leg{
		{{Len: 3000, Ppm: 1000}}, {{Len: 3000, Ppm: -1000}}, {{Len: 1500, Ppm: -1000}, {Len: 1500, Ppm: 1000}}, {{Len: 1500, Ppm: 1000}, {Len: 1500, Ppm: -1000}},
	} {
		counts := make([]api.Time, 3001)
		for i := range counts {
			counts[i], _ = Raw(way, api.Time(i))
		}
		for a := range counts {
			for b := a; b < len(counts); b++ {
				low, high, e := Elapsed(counts[b]-counts[a], 1000)
				if went := api.Time(b - a); e != api.OK || counts[b] < counts[a] || went < low || went > high {
					t.Fatalf("%v: from %d to %d counts %d to %d, %d to %d, %v", way, a, b, counts[a], counts[b], low, high, e)
				}
			}
		}
	}
}

func TestCountsRise(t *testing.T) {
	for _, way := range rightWays {
		last := api.Time(0)
		for _, at := range looks(way) {
			count, e := Raw(way, at)
			if e != api.OK || count < last {
				t.Errorf("Raw(%.3v, %d) = %d, %v behind %d", way, at, count, e, last)
			}
			last = count
		}
	}
}
