package dance

import (
	"fmt"
	"math"
	"sync"
	"testing"

	"sundial/api"
)

// fail tells what went wrong, cut short.
func fail(t *testing.T, form string, things ...any) {
	t.Helper()
	text := fmt.Sprintf(form, things...)
	t.Fatal(text[:min(len(text), 900)])
}

func checkDispatch(t *testing.T, assoc, packet int, want Action) {
	t.Helper()
	if a, e := Dispatch(assoc, packet); a != want || e != api.OK {
		fail(t, "Dispatch(%d, %d) = %d, %v; want %d", assoc, packet, a, e, want)
	}
}

func refuseDispatch(t *testing.T, assoc, packet int) {
	t.Helper()
	if a, e := Dispatch(assoc, packet); a != 0 || e != api.ErrMode {
		fail(t, "Dispatch(%d, %d) = %d, %v; want %v", assoc, packet, a, e, api.ErrMode)
	}
}

func checkTests(t *testing.T, m Memory, h api.Header, authentic, allowed bool, want int) {
	t.Helper()
	if n := Tests(m, h, authentic, allowed); n != want {
		fail(t, "Tests(%+v, %+v, %v, %v) = %d; want %d", m, h, authentic, allowed, n, want)
	}
}

func checkKiss(t *testing.T, h api.Header, want string) {
	t.Helper()
	if s, ok := Kiss(h); s != want || !ok {
		fail(t, "Kiss(%+v) = %q, %v; want %q", h, s, ok, want)
	}
}

func refuseKiss(t *testing.T, h api.Header) {
	t.Helper()
	if s, ok := Kiss(h); s != "" || ok {
		fail(t, "Kiss(%+v) = %q, %v; want none", h, s, ok)
	}
}

func checkCode(t *testing.T, s string, want uint32) {
	t.Helper()
	if n, e := Code(s); n != want || e != api.OK {
		fail(t, "Code(%q) = %#x, %v; want %#x", s, n, e, want)
	}
}

func refuseCode(t *testing.T, s string) {
	t.Helper()
	if n, e := Code(s); n != 0 || e != api.ErrText {
		fail(t, "Code(%q) = %#x, %v; want %v", s, n, e, api.ErrText)
	}
}

// memory and header are those of the chapter's examples: all tests are passed.
func memory() Memory { return Memory{Own: 7, Sent: 9} }

func header() api.Header {
	return api.Header{Version: 4, Mode: 4, Stratum: 2, Origin: 9, Receive: 1, Transmit: 5, Ref: 4}
}

// kiss is a header of Mode 4 and Stratum 0.
func kiss(id uint32) api.Header { return api.Header{Version: 4, Mode: 4, RefID: id} }

// someInts are numbers that may be handed in where a mode, a leap or a stratum stands.
var someInts = []int{
	math.MinInt, math.MinInt32, -257, -256, -255, -16, -4, -3, -2, -1, 0, 1, 2, 3, 4, 5, 6, 7, 8, 9, 14, 15, 16, 17,
	64, 127, 128, 255, 256, 257, 258, 259, 260, 261, 262, 1<<16 + 1, 1<<16 + 4, 1<<31 - 1, math.MaxInt - 1, math.MaxInt,
}

func TestConstants(t *testing.T) {
	for i, a := range []Action{Discard, Process, Reply, Passive, Listen, Reset} {
		if int(a) != i {
			fail(t, "the constant that is to be %d is %d", i, a)
		}
	}
}

func TestExamples(t *testing.T) {
	checkDispatch(t, 0, 3, Reply)
	checkDispatch(t, 0, 1, Passive)
	checkDispatch(t, 2, 2, Reset)
	checkDispatch(t, 3, 4, Process)
	checkDispatch(t, 6, 5, Process)
	refuseDispatch(t, 4, 1)
	refuseDispatch(t, 0, 6)

	checkTests(t, memory(), header(), true, true, 0)
	m := memory()
	m.Heard = 5
	checkTests(t, m, header(), true, true, 1)
	for want, turn := range map[int]func(h *api.Header){
		2:  func(h *api.Header) { h.Origin = 8 },
		8:  func(h *api.Header) { h.Leap = 3 },
		64: func(h *api.Header) { h.RefID = 7 },
		16: func(h *api.Header) { h.RootDisp = 98304 },
		32: func(h *api.Header) { h.Ref = 6 },
	} {
		h := header()
		turn(&h)
		checkTests(t, memory(), h, true, true, want)
	}
	checkTests(t, memory(), header(), false, true, 128)

	checkCode(t, "RATE", 0x52415445)
	checkKiss(t, api.Header{Mode: 4, Stratum: 0, RefID: 0x52415445}, "RATE")
}

// What a call answers hangs on nothing but its arguments, whoever calls besides.
func TestSideBySide(t *testing.T) {
	var wait sync.WaitGroup
	for i := range 8 {
		wait.Go(func() {
			code := string([]byte{'A' + byte(i), 'B', 'C', 'D'})
			for range 200 {
				id, _ := Code(code)
				h := header()
				h.Leap = i
				got, ok := Kiss(kiss(id))
				sum := Tests(memory(), h, i%2 == 0, true)
				action, e := Dispatch(0, 1+i%5)
				again, also := Dispatch(0, 1+i%5)
				if got != code || !ok || sum != failing(memory(), h, i%2 == 0, true) || action != again || e != also {
					t.Errorf("beside others: %q, %v, %d, %v, %v", got, ok, sum, action, e)
				}
			}
		})
	}
	wait.Wait()
}
