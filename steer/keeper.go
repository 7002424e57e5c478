package steer

import (
	"slices"

	"meridian/api"
	"meridian/number"
)

// Keeper keeps a realisation.
type Keeper struct {
	self *Keeper // tells a keeper that NewKeeper returned from a zero value, and from a copy
	now  keeping
}

// keeping is what a keeper has. Its plan is no part of Keeper itself, where
// everyone could change it.
type keeping struct {
	control // the chart of its plan
	unit    int
	rate    int
	log     []Entry
}

// NewKeeper returns a keeper.
func NewKeeper(p Plan, unit, r int) (*Keeper, api.Errno) {
	if e := Check(p); e != api.OK {
		return nil, e
	}
	if !number.Within(unit, 1, MaxUnit) || !number.Within(r, -p.Rate, p.Rate) {
		return nil, api.ErrRange
	}
	c := p.chart()
	for _, s := range c.meant() {
		if s.Rate == r {
			k := &Keeper{now: keeping{control: c, unit: unit, rate: r}}
			k.self = k
			return k, api.OK
		}
	}
	return nil, api.ErrNone
}

// Drive takes a measured span of the true error, and returns the new rate.
func (k *Keeper) Drive(s api.Span) (int, api.Errno) {
	if !k.isMade() {
		return 0, api.ErrNil
	}
	if s.Lo > s.Hi || s.Lo < -api.MaxPhase || s.Hi > api.MaxPhase {
		return 0, api.ErrEmpty
	}
	if len(k.now.log) == MaxLog {
		return 0, api.ErrMany
	}
	return k.now.drive((s.Lo + s.Hi) / 2)
}

// Log returns the errors so far, each with the rate that was taken then.
func (k *Keeper) Log() ([]Entry, api.Errno) {
	if !k.isMade() {
		return nil, api.ErrNil
	}
	return slices.Clone(k.now.log), api.OK
}

func (k *Keeper) isMade() bool { return k != nil && k.self == k }

// drive takes an error in femtoseconds.
func (k *keeping) drive(femtoseconds int) (int, api.Errno) {
	e := nearest(femtoseconds, k.unit)
	if !number.Within(e, -k.Limit, k.Limit) {
		return 0, api.ErrState
	}
	q := k.at(Entry{e, k.rate})
	if q >= Escape {
		return 0, api.ErrState
	}
	k.rate = q
	k.log = append(k.log, Entry{e, q})
	return q, api.OK
}

// nearest is a / b, rounded to the nearest, a half away from 0; b is above 0.
func nearest(a, b int) int {
	if a < 0 {
		return -nearest(-a, b)
	}
	return (2*a + b) / (2 * b)
}
