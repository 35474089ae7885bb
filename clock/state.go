package clock

import "sundial/api"

// state is how a clock stands to offsets: unset, set or spike.
type state interface {
	// ignores tells whether an offset that is too great to be slewed is ignored at a raw count.
	ignores(raw api.Time) bool
}

// unset is a clock that nobody has told the time yet.
type unset struct{}

// set is a clock that has been told the time, and nothing since that contradicts it.
type set struct{}

// spike is a clock that has been told something too far off to be believed at once.
type spike struct {
	since api.Time // the raw count of the first of these offsets
}

func (unset) ignores(api.Time) bool { return false }

func (set) ignores(api.Time) bool { return true }

func (s spike) ignores(raw api.Time) bool { return raw-s.since < patience }
