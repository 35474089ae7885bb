package fix

import (
	"math"
	"math/big"
	"math/rand"
	"testing"

	"sundial/api"
)

const (
	far  = api.Far
	most = api.Time(math.MaxInt64)
	low  = api.Time(math.MinInt64)
)

// strange are values that are no times.
var strange = []api.Time{far + 1, -far - 1, most, low, low + 1, 1 << 62, -1 << 62}

// edges are times whose handling is likely to go wrong first.
var edges = []api.Time{
	0, 1, -1, 2, -2, 7, -7, 15, 16, 17, -15, -16, -17, api.Second, -api.Second,
	1<<31 - 1, 1 << 31, 1<<31 + 1, 1 << 32, 1<<36 - 16, 1<<36 - 15, 1 << 36,
	1<<51 - 1, 1 << 51, -1 << 51, -1<<51 - 1, 1 << 52, -1 << 52, 1<<52 - 1, 1<<52 + 1,
	1 << 60, -1 << 60, far - 1<<52, -far + 1<<52, far - 1, -far + 1, far, -far,
}

func span(lo, hi api.Time) api.Span { return api.Span{Lo: lo, Hi: hi} }

func randomTime(r *rand.Rand) api.Time {
	t := api.Time(r.Int63n(int64(far)+1)) >> r.Intn(62)
	if r.Intn(2) == 0 {
		return -t
	}
	return t
}

// bounded brings an exact number into bounds.
func bounded(x *big.Int) api.Time {
	if x.Cmp(big.NewInt(int64(far))) > 0 {
		return far
	}
	if x.Cmp(big.NewInt(-int64(far))) < 0 {
		return -far
	}
	return api.Time(x.Int64())
}

// P1.1
func TestSumExamples(t *testing.T) {
	for _, r := range []struct{ a, b, want api.Time }{
		{0, 0, 0}, {3, -5, -2}, {-3, 5, 2}, {api.Second, 1, api.Second + 1},
		{far, 1, far}, {1, far, far}, {far - 1, 1, far}, {far - 1, 2, far}, {far, 0, far}, {far, -1, far - 1},
		{-far, -1, -far}, {-1, -far, -far}, {-far + 1, -1, -far}, {-far + 1, -2, -far}, {-far, 0, -far}, {-far, 1, -far + 1},
		{far, far, far}, {-far, -far, -far}, {far, -far, 0}, {-far, far, 0},
	} {
		if got, e := Sum(r.a, r.b); got != r.want || e != api.OK {
			t.Errorf("Sum(%d, %d) = %d, %v; want %d", r.a, r.b, got, e, r.want)
		}
	}
}

func TestSumOfEdgesIsExactWithinBounds(t *testing.T) {
	for _, a := range edges {
		for _, b := range edges {
			want := bounded(new(big.Int).Add(big.NewInt(int64(a)), big.NewInt(int64(b))))
			if got, e := Sum(a, b); got != want || e != api.OK {
				t.Errorf("Sum(%d, %d) = %d, %v; want %d", a, b, got, e, want)
			}
		}
	}
}

func TestSumRefusesWhatIsNoTime(t *testing.T) {
	for _, x := range strange {
		for _, y := range append([]api.Time{0, 1, -1, far, -far, -x}, strange...) {
			if got, e := Sum(x, y); got != 0 || e != api.ErrRange {
				t.Errorf("Sum(%d, %d) = %d, %v", x, y, got, e)
			}
			if got, e := Sum(y, x); got != 0 || e != api.ErrRange {
				t.Errorf("Sum(%d, %d) = %d, %v", y, x, got, e)
			}
		}
	}
}

// P1.2
func TestPartExamples(t *testing.T) {
	const top = 1 << 31
	for _, r := range []struct {
		a        api.Time
		num, den int
		up       bool
		want     api.Time
	}{
		{7, 1, 2, false, 3}, {7, 1, 2, true, 4}, {-7, 1, 2, false, -4}, {-7, 1, 2, true, -3},
		{8, 1, 2, false, 4}, {8, 1, 2, true, 4}, {-8, 1, 2, false, -4}, {-8, 1, 2, true, -4},
		{1, 1, top, false, 0}, {1, 1, top, true, 1}, {-1, 1, top, false, -1}, {-1, 1, top, true, 0},
		{5, 0, 9, true, 0}, {-5, 0, 9, false, 0}, {far, 0, 1, true, 0}, {-far, 0, 1, false, 0}, {0, top, 1, true, 0},
		{far, 1, 1, false, far}, {-far, 1, 1, true, -far}, {far, top, top, true, far}, {-far, top, top, false, -far},
		{far, 3, 2, false, far}, {-far, 3, 2, true, -far}, {far, top, 1, false, far}, {-far, top, 1, true, -far},
		{far, top, top - 1, false, far}, {-far, top, top - 1, true, -far},
		{far - 1, 1, 1, true, far - 1}, {-far + 1, 1, 1, false, -far + 1},
		{far, top - 1, top, false, far - 1<<30}, {far, 1, 3, false, 768614336404564650}, {far, 1, 3, true, 768614336404564651},
		{1 << 60, 1000001, 1000000, false, 1152922657528351582}, {1 << 60, 1000001, 1000000, true, 1152922657528351583},
		{-1 << 60, 1000001, 1000000, false, -1152922657528351583}, {-1 << 60, 1000001, 1000000, true, -1152922657528351582},
	} {
		if got, e := Part(r.a, r.num, r.den, r.up); got != r.want || e != api.OK {
			t.Errorf("Part(%d, %d, %d, %v) = %d, %v; want %d", r.a, r.num, r.den, r.up, got, e, r.want)
		}
	}
}

// exactPart works a fraction out with numbers that have no bound.
func exactPart(a api.Time, num, den int, up bool) api.Time {
	n := new(big.Int).Mul(big.NewInt(int64(a)), big.NewInt(int64(num)))
	d := big.NewInt(int64(den))
	// Div rounds down for a divisor above nought.
	if up {
		return bounded(new(big.Int).Neg(new(big.Int).Div(n.Neg(n), d)))
	}
	return bounded(new(big.Int).Div(n, d))
}

func checkPart(t *testing.T, a api.Time, num, den int) {
	t.Helper()
	for _, up := range []bool{false, true} {
		want := exactPart(a, num, den, up)
		if got, e := Part(a, num, den, up); got != want || e != api.OK {
			t.Errorf("Part(%d, %d, %d, %v) = %d, %v; want %d", a, num, den, up, got, e, want)
		}
	}
}

func TestPartIsExact(t *testing.T) {
	factors := []int{0, 1, 2, 3, 7, 999999, 1000000, 1000001, 1<<31 - 1, 1 << 31}
	for _, a := range edges {
		for _, num := range factors {
			for _, den := range factors[1:] {
				checkPart(t, a, num, den)
			}
		}
	}
	r := rand.New(rand.NewSource(1))
	for range 50000 {
		checkPart(t, randomTime(r), r.Intn(1<<31+1)>>r.Intn(32), 1+r.Intn(1<<31)>>r.Intn(32))
	}
}

func TestPartWhoseQuotientIsAllOnesStaysInBounds(t *testing.T) {
	// A quotient of 2^64 - 1 with a rest would wrap round to nought, if it were rounded up ahead of being bounded.
	const den = 1<<27 + 1
	beyond := new(big.Int).Lsh(big.NewInt(den), 64)
	found := 0
	for num := 1<<31 - 1000; num <= 1<<31; num++ {
		a := new(big.Int).Div(beyond, big.NewInt(int64(num)))
		rest := new(big.Int).Sub(beyond, new(big.Int).Mul(a, big.NewInt(int64(num))))
		if rest.Sign() > 0 && rest.Cmp(big.NewInt(den)) < 0 && a.Cmp(big.NewInt(int64(far))) <= 0 {
			found++
			checkPart(t, api.Time(a.Int64()), num, den)
			checkPart(t, -api.Time(a.Int64()), num, den)
		}
	}
	if found == 0 {
		t.Error("no such fraction was found")
	}
}

func TestPartRefuses(t *testing.T) {
	for _, up := range []bool{false, true} {
		for _, x := range strange {
			if got, e := Part(x, 1, 1, up); got != 0 || e != api.ErrRange {
				t.Errorf("Part(%d, 1, 1, %v) = %d, %v", x, up, got, e)
			}
			if got, e := Part(x, 0, 1, up); got != 0 || e != api.ErrRange {
				t.Errorf("Part(%d, 0, 1, %v) = %d, %v", x, up, got, e)
			}
		}
		for _, r := range []struct{ num, den int }{
			{-1, 1}, {1<<31 + 1, 1}, {math.MinInt, 1}, {math.MaxInt, 1},
			{1, 0}, {1, -1}, {1, 1<<31 + 1}, {1, math.MinInt}, {1, math.MaxInt}, {0, 0}, {-1, -1},
			{1 << 32, 1 << 32}, {1<<32 + 1, 1}, {1, 1<<32 + 1},
		} {
			for _, a := range []api.Time{0, 5, -5, far} {
				if got, e := Part(a, r.num, r.den, up); got != 0 || e != api.ErrRange {
					t.Errorf("Part(%d, %d, %d, %v) = %d, %v", a, r.num, r.den, up, got, e)
				}
			}
		}
	}
}

// P1.3
func TestStamp(t *testing.T) {
	for _, r := range []struct {
		t    api.Time
		want uint64
	}{
		{0, 0}, {1, 4096}, {-1, 18446744073709547520}, {api.Second, 1 << 32}, {-api.Second, 0xffffffff00000000},
		{3*api.Second + 1<<19, 3<<32 + 1<<31}, {1 << 51, 1 << 63}, {-1 << 51, 1 << 63}, {1<<51 - 1, 1<<63 - 4096},
		{1 << 52, 0}, {1<<52 + 1, 4096}, {-1<<52 + 1, 4096}, {far, 0}, {-far, 0}, {far - 1, 18446744073709547520}, {-far + 1, 4096},
	} {
		if got, e := Stamp(r.t); got != r.want || e != api.OK {
			t.Errorf("Stamp(%d) = %d, %v; want %d", r.t, got, e, r.want)
		}
	}
	for _, x := range strange {
		if got, e := Stamp(x); got != 0 || e != api.ErrRange {
			t.Errorf("Stamp(%d) = %d, %v", x, got, e)
		}
	}
}

func TestUnfoldExamples(t *testing.T) {
	const half, era = 1 << 51, 1 << 52
	for _, r := range []struct {
		s     uint64
		pivot api.Time
		want  api.Span
	}{
		{0, 0, span(0, 0)}, {4096, 0, span(1, 1)}, {4097, 0, span(1, 2)}, {8191, 0, span(1, 2)}, {1, 0, span(0, 1)}, {4095, 0, span(0, 1)},
		{4096, era, span(era+1, era+1)}, {0, -era, span(-era, -era)}, {4097, -era, span(-era+1, -era+2)},
		{1 << 63, 0, span(-half, -half)}, {1<<63 - 4096, 0, span(half-1, half-1)}, {1<<63 - 1, 0, span(half-1, half)}, {1<<63 + 1, 0, span(-half, -half+1)},
		{math.MaxUint64, 0, span(-1, 0)}, {math.MaxUint64 - 4095, 0, span(-1, -1)},
		{1 << 63, 1, span(half, half)}, {1 << 63, -1, span(-half, -half)}, {1<<63 - 4096, -1, span(-half-1, -half-1)},
		{0, far - era, span(far-era, far-era)}, {1<<63 - 1, far - era, span(far-half-1, far-half)},
		{0, -far + era, span(-far+era, -far+era)}, {1 << 63, -far + era, span(-far+half, -far+half)},
	} {
		if got, e := Unfold(r.s, r.pivot); got != r.want || e != api.OK {
			t.Errorf("Unfold(%d, %d) = %v, %v; want %v", r.s, r.pivot, got, e, r.want)
		}
	}
}

func TestUnfoldIsNextToThePivot(t *testing.T) {
	r := rand.New(rand.NewSource(2))
	for range 50000 {
		s, pivot := r.Uint64(), randomTime(r)
		if r.Intn(3) == 0 {
			s &^= 4095
		}
		pivot = min(max(pivot, -far+1<<52), far-1<<52)
		got, e := Unfold(s, pivot)
		if e != api.OK || got.Lo < pivot-1<<51 || got.Lo > pivot+1<<51-1 {
			t.Fatalf("Unfold(%d, %d) = %v, %v", s, pivot, got, e)
		}
		if (int64(got.Lo)-int64(s>>12))%(1<<52) != 0 {
			t.Fatalf("Unfold(%d, %d) = %v: not the stamp's time", s, pivot, got)
		}
		if wide := s%4096 != 0; got.Hi-got.Lo != map[bool]api.Time{false: 0, true: 1}[wide] {
			t.Fatalf("Unfold(%d, %d) = %v: not as wide as it must be", s, pivot, got)
		}
	}
}

func TestUnfoldRefusesPivots(t *testing.T) {
	for _, pivot := range append([]api.Time{far - 1<<52 + 1, -far + 1<<52 - 1, far, -far}, strange...) {
		for _, s := range []uint64{0, 1, 4096, math.MaxUint64} {
			if got, e := Unfold(s, pivot); got != (api.Span{}) || e != api.ErrRange {
				t.Errorf("Unfold(%d, %d) = %v, %v", s, pivot, got, e)
			}
		}
	}
}

// P1.4
func TestShort(t *testing.T) {
	const top = math.MaxUint32
	for _, r := range []struct {
		d    api.Time
		want uint32
	}{
		{0, 0}, {1, 1}, {15, 1}, {16, 1}, {17, 2}, {32, 2}, {33, 3}, {api.Second, 65536}, {api.Second + 1, 65537},
		{-1, 0}, {-5, 0}, {-16, 0}, {-17, 0}, {-31, 0}, {-32, 0}, {-100, 0}, {-1 << 36, 0}, {-far, 0},
		{1<<36 - 33, top - 1}, {1<<36 - 32, top - 1}, {1<<36 - 31, top}, {1<<36 - 17, top}, {1<<36 - 16, top},
		{1<<36 - 15, top}, {1 << 36, top}, {1<<36 + 1, top}, {1<<36 + 17, top}, {1 << 60, top}, {far - 1, top}, {far, top},
	} {
		if got, e := Short(r.d); got != r.want || e != api.OK {
			t.Errorf("Short(%d) = %d, %v; want %d", r.d, got, e, r.want)
		}
	}
	for _, x := range strange {
		if got, e := Short(x); got != 0 || e != api.ErrRange {
			t.Errorf("Short(%d) = %d, %v", x, got, e)
		}
	}
}

func TestLong(t *testing.T) {
	for x, want := range map[uint32]api.Time{
		0: 0, 1: 16, 3: 48, 65536: api.Second, 1<<28 - 1: 1<<32 - 16, 1 << 28: 1 << 32, 1 << 31: 1 << 35, math.MaxUint32: 68719476720,
	} {
		if got := Long(x); got != want {
			t.Errorf("Long(%d) = %d; want %d", x, got, want)
		}
	}
}

// P1.6
func TestUnfoldOfStampIsTheTime(t *testing.T) {
	r := rand.New(rand.NewSource(3))
	pivots := []api.Time{0, 1, -1, 1 << 51, -1 << 51, 1 << 52, -1 << 52, far - 1<<52, -far + 1<<52}
	for range 1000 {
		pivots = append(pivots, min(max(randomTime(r), -far+1<<52), far-1<<52))
	}
	for _, pivot := range pivots {
		for _, d := range []api.Time{-1 << 51, -1<<51 + 1, -1, 0, 1, 1<<51 - 1, api.Time(r.Int63n(1<<52)) - 1<<51} {
			s, e := Stamp(pivot + d)
			if e != api.OK {
				t.Fatal(pivot, d, e)
			}
			if got, e := Unfold(s, pivot); got != span(pivot+d, pivot+d) || e != api.OK {
				t.Errorf("Unfold(Stamp(%d), %d) = %v, %v", pivot+d, pivot, got, e)
			}
		}
		// The upper end left out: there the stamp stands for the time an era earlier.
		s, _ := Stamp(pivot + 1<<51)
		if got, e := Unfold(s, pivot); got != span(pivot-1<<51, pivot-1<<51) || e != api.OK {
			t.Errorf("Unfold(Stamp(%d), %d) = %v, %v", pivot+1<<51, pivot, got, e)
		}
	}
}

func TestLongOfShortIsNotBelow(t *testing.T) {
	check := func(d api.Time) {
		x, e := Short(d)
		if over := Long(x) - d; e != api.OK || over < 0 || over >= 16 {
			t.Errorf("Long(Short(%d)) = %d, %v", d, Long(x), e)
		}
	}
	for d := range api.Time(100) {
		check(d)
		check(1<<36 - 16 - d)
		check(1<<32 - 50 + d)
	}
	r := rand.New(rand.NewSource(4))
	for range 10000 {
		check(api.Time(r.Int63n(1<<36 - 15)))
	}
}
