package dance

import (
	"math"
	"testing"

	"sundial/api"
)

// turned is what a turn makes of the example that passes all tests.
func turned(turn func(m *Memory, h *api.Header)) (Memory, api.Header) {
	m, h := memory(), header()
	turn(&m, &h)
	return m, h
}

// checkTurned holds what fails against what is asked, beside the last two tests each way.
func checkTurned(t *testing.T, want int, turn func(m *Memory, h *api.Header)) {
	t.Helper()
	m, h := turned(turn)
	checkTests(t, m, h, true, true, want)
	checkTests(t, m, h, false, true, want+128)
	checkTests(t, m, h, true, false, want+256)
	checkTests(t, m, h, false, false, want+128+256)
}

// P19.2: the first test fails of the packet that was taken last, but not of a Transmit that is 0.
func TestFirst(t *testing.T) {
	for _, stamp := range []uint64{1, 5, 1<<32 - 1, 1 << 32, 1 << 63, math.MaxUint64} {
		checkTurned(t, 1, func(m *Memory, h *api.Header) { m.Heard, h.Transmit, h.Ref = stamp, stamp, stamp })
		for _, other := range []uint64{stamp - 1, stamp + 1, stamp ^ 1<<63, stamp ^ 1<<32, 0} {
			if other != stamp {
				checkTurned(t, 0, func(m *Memory, h *api.Header) { m.Heard, h.Transmit, h.Ref = other, stamp, stamp })
			}
		}
		// The third one alone fails of a Transmit 0.
		checkTurned(t, 4, func(m *Memory, h *api.Header) { m.Heard, h.Transmit, h.Ref = stamp, 0, 0 })
	}
	checkTurned(t, 4, func(m *Memory, h *api.Header) { m.Heard, h.Transmit, h.Ref = 0, 0, 0 })
	checkTurned(t, 1, func(m *Memory, h *api.Header) {
		m.Heard, h.Transmit, h.Mode, h.Origin, h.Receive = 5, 5, 5, 0, 0
	})
	// What was sent, and what else the header tells, isn't what was heard.
	checkTurned(t, 0, func(m *Memory, h *api.Header) { m.Sent, h.Origin, h.Transmit, h.Ref = 9, 9, 9, 9 })
	checkTurned(t, 0, func(m *Memory, h *api.Header) { m.Heard = h.Receive })
	checkTurned(t, 0, func(m *Memory, h *api.Header) { m.Heard = h.Ref })
	checkTurned(t, 0, func(m *Memory, h *api.Header) { m.Heard = h.Origin })
}

// P19.2: the second test fails of a header that answers nothing that was sent last; broadcasts answer nothing.
func TestSecond(t *testing.T) {
	for _, sent := range []uint64{0, 1, 9, 1 << 32, 1 << 63, math.MaxUint64} {
		for _, origin := range []uint64{sent, sent + 1, sent - 1, sent ^ 1<<32, sent ^ 1<<63, 0} {
			for _, mode := range someInts {
				want := 0
				if mode != 5 && (sent == 0 || origin != sent) {
					want = 2
				}
				checkTurned(t, want, func(m *Memory, h *api.Header) { m.Sent, h.Origin, h.Mode = sent, origin, mode })
			}
		}
	}
	// The stamp of what was heard isn't that of what was sent.
	checkTurned(t, 2, func(m *Memory, h *api.Header) { m.Heard, h.Origin = 8, 8 })
}

// P19.2: the third test fails without Transmit, and without Receive but of a broadcast.
func TestThird(t *testing.T) {
	for _, mode := range someInts {
		needed := 4
		if mode == 5 {
			needed = 0
		}
		checkTurned(t, needed, func(m *Memory, h *api.Header) { h.Mode, h.Receive = mode, 0 })
		checkTurned(t, 4, func(m *Memory, h *api.Header) { h.Mode, h.Transmit, h.Ref = mode, 0, 0 })
		checkTurned(t, 4, func(m *Memory, h *api.Header) { h.Mode, h.Receive, h.Transmit, h.Ref = mode, 0, 0, 0 })
		for _, stamp := range []uint64{1, 1 << 12, 1 << 32, 1 << 63, math.MaxUint64} {
			checkTurned(t, 0, func(m *Memory, h *api.Header) { h.Mode, h.Receive = mode, stamp })
			checkTurned(t, needed, func(m *Memory, h *api.Header) {
				h.Mode, h.Receive, h.Transmit, h.Ref = mode, 0, stamp, stamp
			})
		}
	}
}

// P19.2: the fourth test fails of Leap 3, and of a stratum that isn't from 1 to 15.
func TestFourth(t *testing.T) {
	for _, leap := range someInts {
		for _, stratum := range someInts {
			want := 8
			if leap != 3 && stratum >= 1 && stratum <= 15 {
				want = 0
			}
			checkTurned(t, want, func(m *Memory, h *api.Header) { h.Leap, h.Stratum = leap, stratum })
		}
	}
	for stratum := -1; stratum <= 17; stratum++ {
		want := 0
		if stratum == -1 || stratum == 0 || stratum == 16 || stratum == 17 {
			want = 8
		}
		checkTurned(t, want, func(m *Memory, h *api.Header) { h.Stratum = stratum })
	}
}

// P19.2: the fifth test fails of a root distance of 1572864 ticks or more: a unit of RootDelay is 8 of them, of RootDisp 16.
func TestFifth(t *testing.T) {
	for _, r := range []struct {
		delay, disp uint32
		want        int
	}{
		{0, 0, 0}, {1, 0, 0}, {0, 1, 0},
		{0, 98303, 0}, {0, 98304, 16}, {0, 98305, 16},
		{196606, 0, 0}, {196607, 0, 0}, {196608, 0, 16}, {196609, 0, 16},
		{1, 98303, 0}, {2, 98303, 16}, {3, 98303, 16}, {1, 98304, 16},
		{3, 98302, 0}, {4, 98302, 16}, {5, 98302, 16},
		{98303, 49152, 0}, {98304, 49152, 16}, {98305, 49152, 16}, {98304, 49151, 0}, {98305, 49151, 0}, {98306, 49151, 16},
		{196607, 1, 16}, {196605, 1, 0}, {196606, 1, 16},
		{1<<32 - 1, 0, 16}, {0, 1<<32 - 1, 16}, {1<<32 - 1, 1<<32 - 1, 16},
		{1 << 28, 0, 16}, {0, 1 << 28, 16}, {1 << 29, 0, 16}, {0, 1 << 29, 16}, {1 << 31, 0, 16}, {0, 1 << 31, 16},
		{1 << 31, 1 << 31, 16}, {1<<32 - 2, 1, 16}, {2, 1<<32 - 1, 16},
	} {
		checkTurned(t, r.want, func(m *Memory, h *api.Header) { h.RootDelay, h.RootDisp = r.delay, r.disp })
	}
}

// P19.2: the sixth test fails of a Ref that is later than Transmit, the shorter way round.
func TestSixth(t *testing.T) {
	stamps := []uint64{1, 2, 5, 1<<32 - 1, 1 << 32, 1<<63 - 1, 1 << 63, 1<<63 + 1, math.MaxUint64 - 1, math.MaxUint64}
	for _, sent := range stamps {
		for ahead, want := range map[uint64]int{
			0: 0, 1: 32, 2: 32, 1 << 32: 32, 1<<62 + 1: 32, 1<<63 - 2: 32, 1<<63 - 1: 32,
			1 << 63: 0, 1<<63 + 1: 0, 1<<63 + 1<<62: 0, math.MaxUint64 - 1: 0, math.MaxUint64: 0,
		} {
			checkTurned(t, want, func(m *Memory, h *api.Header) { h.Transmit, h.Ref = sent, sent+ahead })
		}
		for _, set := range stamps {
			want := 0
			if d := set - sent; d >= 1 && d <= 1<<63-1 {
				want = 32
			}
			checkTurned(t, want, func(m *Memory, h *api.Header) { h.Transmit, h.Ref = sent, set })
		}
	}
	checkTurned(t, 4+32, func(m *Memory, h *api.Header) { h.Transmit, h.Ref = 0, 1 })
	checkTurned(t, 0, func(m *Memory, h *api.Header) { h.Ref = 0 })
}

// P19.2: the seventh test fails of a sender that has its time from here; with the stratum 1 the RefID is no address.
func TestSeventh(t *testing.T) {
	for _, own := range []uint32{0, 7, 1 << 16, 1 << 31, math.MaxUint32} {
		for _, stratum := range someInts {
			want := 0
			if stratum < 1 || stratum > 15 {
				want = 8
			}
			checkTurned(t, want, func(m *Memory, h *api.Header) { m.Own, h.RefID, h.Stratum = own, own+1, stratum })
			checkTurned(t, want, func(m *Memory, h *api.Header) { m.Own, h.RefID, h.Stratum = own, own^1<<31, stratum })
			if stratum >= 2 {
				want += 64
			}
			checkTurned(t, want, func(m *Memory, h *api.Header) { m.Own, h.RefID, h.Stratum = own, own, stratum })
		}
	}
	checkTurned(t, 0, func(m *Memory, h *api.Header) { h.RefID, h.Stratum = 7, 1 })
	checkTurned(t, 64, func(m *Memory, h *api.Header) { h.RefID, h.Stratum = 7, 2 })
}

// P19.2: the eighth and the ninth test are what is handed in, of any header.
func TestEighthAndNinth(t *testing.T) {
	checkTests(t, memory(), header(), true, true, 0)
	checkTests(t, memory(), header(), false, true, 128)
	checkTests(t, memory(), header(), true, false, 256)
	checkTests(t, memory(), header(), false, false, 384)
	checkTests(t, Memory{}, api.Header{}, true, true, 2+4+8)
	checkTests(t, Memory{}, api.Header{}, false, false, 2+4+8+128+256)
}

// spoilers make each of the tests but the last two fail, beside whatever else fails, and nothing else.
var spoilers = []func(m *Memory, h *api.Header){
	func(m *Memory, h *api.Header) { m.Heard = h.Transmit },
	func(m *Memory, h *api.Header) { h.Origin++ },
	func(m *Memory, h *api.Header) { h.Receive = 0 },
	func(m *Memory, h *api.Header) { h.Leap = 3 },
	func(m *Memory, h *api.Header) { h.RootDelay, h.RootDisp = 2, 98303 },
	func(m *Memory, h *api.Header) { h.Ref = h.Transmit + 1 },
	func(m *Memory, h *api.Header) { h.RefID = m.Own },
}

// P19.2: each test alone, and every choice of several, adds what it counts.
func TestSeveralAtOnce(t *testing.T) {
	for sum := range 512 {
		m, h := turned(func(m *Memory, h *api.Header) {
			for i, spoil := range spoilers {
				if sum>>i&1 == 1 {
					spoil(m, h)
				}
			}
		})
		checkTests(t, m, h, sum&128 == 0, sum&256 == 0, sum)
	}
}

// P19.2: what no test speaks of changes nothing.
func TestTheRestIsNotTested(t *testing.T) {
	for _, n := range someInts {
		checkTurned(t, 0, func(m *Memory, h *api.Header) { h.Version = n })
		checkTurned(t, 0, func(m *Memory, h *api.Header) { h.Poll = n })
		checkTurned(t, 0, func(m *Memory, h *api.Header) { h.Precision = n })
		checkTurned(t, 2+8, func(m *Memory, h *api.Header) { h.Version, h.Poll, h.Precision, h.Leap, h.Origin = n, n, n, 3, 1 })
	}
}
