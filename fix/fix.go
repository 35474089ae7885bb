// Package fix is layer 1: times in ticks, stamps, short forms and spans. See shared/doc/01-fix.md.
package fix

import (
	"math/bits"

	"sundial/api"
)

const (
	// maxFactor is the greatest num and den of a fraction.
	maxFactor = 1 << 31

	// stampShift: a stamp's unit is 1/2^32 of a second, a tick 1/2^20.
	stampShift = 12

	// era is the ticks after which stamps come round again.
	era = 1 << 52

	// shortUnit is the ticks of one unit of the short form.
	shortUnit = 16

	// maxShort is the greatest short form.
	maxShort = 1<<32 - 1
)

// Sum is a plus b, within bounds. ErrRange.
func Sum(a, b api.Time) (api.Time, api.Errno) {
	if !isTime(a) || !isTime(b) {
		return 0, api.ErrRange
	}
	return boundedSum(a, b), api.OK
}

// Part is a * num / den, worked out exactly, then rounded down, or up if up. ErrRange.
func Part(a api.Time, num, den int, up bool) (api.Time, api.Errno) {
	if !isTime(a) || num < 0 || int64(num) > maxFactor || den < 1 || int64(den) > maxFactor {
		return 0, api.ErrRange
	}
	if a < 0 {
		// What is rounded down below nought is the size rounded up, and the other way round.
		return -sizeOfPart(uint64(-a), uint64(num), uint64(den), !up), api.OK
	}
	return sizeOfPart(uint64(a), uint64(num), uint64(den), up), api.OK
}

// Stamp is the 64-bit stamp of a time. ErrRange.
func Stamp(t api.Time) (uint64, api.Errno) {
	if !isTime(t) {
		return 0, api.ErrRange
	}
	return uint64(t) << stampShift, api.OK
}

// Unfold is the times next to the pivot that a stamp may stand for. ErrRange.
func Unfold(s uint64, pivot api.Time) (api.Span, api.Errno) {
	if pivot < -api.Far+era || pivot > api.Far-era {
		return api.Span{}, api.ErrRange
	}
	first := pivot - era/2
	// Unsigned differences wrap round at a multiple of an era, so the rest is right for a first below nought, too.
	ahead := (s>>stampShift - uint64(first)) % era
	t := first + api.Time(ahead)
	if s%(1<<stampShift) == 0 {
		return api.Span{Lo: t, Hi: t}, api.OK
	}
	// The stamp lies between two ticks; both ends are kept so that the span is sure to hold it.
	return api.Span{Lo: t, Hi: t + 1}, api.OK
}

// Short is a duration's short form, rounded up. ErrRange.
func Short(d api.Time) (uint32, api.Errno) {
	if !isTime(d) {
		return 0, api.ErrRange
	}
	if d < 0 {
		return 0, api.OK
	}
	units := (d + shortUnit - 1) / shortUnit
	return uint32(min(units, maxShort)), api.OK
}

// Long is a short form's duration.
func Long(x uint32) api.Time { return shortUnit * api.Time(x) }

// Check tells whether s is a span. ErrShape.
func Check(s api.Span) api.Errno {
	if !isTime(s.Lo) || !isTime(s.Hi) || s.Lo > s.Hi {
		return api.ErrShape
	}
	return api.OK
}

// Meet is the times that are in both spans. ErrShape, ErrNone.
func Meet(a, b api.Span) (api.Span, api.Errno) {
	if Check(a) != api.OK || Check(b) != api.OK {
		return api.Span{}, api.ErrShape
	}
	lo, hi := max(a.Lo, b.Lo), min(a.Hi, b.Hi)
	if lo > hi {
		return api.Span{}, api.ErrNone
	}
	return api.Span{Lo: lo, Hi: hi}, api.OK
}

// Cover is the least span that holds both. ErrShape.
func Cover(a, b api.Span) (api.Span, api.Errno) {
	if Check(a) != api.OK || Check(b) != api.OK {
		return api.Span{}, api.ErrShape
	}
	return api.Span{Lo: min(a.Lo, b.Lo), Hi: max(a.Hi, b.Hi)}, api.OK
}

// Shift is s moved by d. ErrShape, ErrRange.
func Shift(s api.Span, d api.Time) (api.Span, api.Errno) {
	if Check(s) != api.OK {
		return api.Span{}, api.ErrShape
	}
	if !isTime(d) {
		return api.Span{}, api.ErrRange
	}
	// An end without a bound doesn't get one by being moved.
	if s.Lo != -api.Far {
		s.Lo = boundedSum(s.Lo, d)
	}
	if s.Hi != api.Far {
		s.Hi = boundedSum(s.Hi, d)
	}
	return s, api.OK
}

func isTime(t api.Time) bool { return -api.Far <= t && t <= api.Far }

// boundedSum takes two times: their sum is at most 2^62 in size, so it doesn't wrap round ahead of being brought into bounds.
func boundedSum(a, b api.Time) api.Time {
	return min(max(a+b, -api.Far), api.Far)
}

// sizeOfPart is size * num / den, rounded, at most Far. The product needs up to 92 bits.
func sizeOfPart(size, num, den uint64, up bool) api.Time {
	hi, lo := bits.Mul64(size, num)
	if hi >= den {
		// The quotient is 2^64 or more, which Div64 doesn't take.
		return api.Far
	}
	quo, rem := bits.Div64(hi, lo, den)
	if quo >= uint64(api.Far) {
		// Ahead of rounding up, as quo may be 2^64 - 1.
		return api.Far
	}
	if up && rem != 0 {
		quo++
	}
	return api.Time(quo)
}
