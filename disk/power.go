package disk

import (
	"math"

	"sundial/api"
)

// whole is how far a change comes that the power doesn't go out at.
const whole = math.MaxInt

// power is whether a disk's power is out, and when it will go out. The zero power is on, with no cut to come.
type power struct {
	out   bool
	cut   bool // the power will go out
	ahead int  // how many changes come ahead of the one at which it does
	keep  int  // how far that one comes
}

// cutAt lets the power go out at the n-th change from now on.
func (p *power) cutAt(n, keep int) {
	p.cut, p.ahead, p.keep = true, n, keep
}

// change tells how far the change comes that is being made. ErrDown: the power goes out at it.
func (p *power) change() (int, api.Errno) {
	if !p.cut {
		return whole, api.OK
	}
	if p.ahead > 0 {
		p.ahead--
		return whole, api.OK
	}
	reach := p.keep
	*p = power{out: true}
	return reach, api.ErrDown
}
