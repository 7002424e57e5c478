package stamp

import (
	"slices"

	"meridian/api"
	"meridian/number"
)

// Chain is a chain of stamps.
type Chain struct {
	self *Chain // tells a chain that New or Copy returned from a zero value, and from a copy by value
	signer
	stamps []Stamp
}

// signer signs stamps.
type signer struct{ key uint64 }

// New returns an empty chain.
func New(key uint64) *Chain { return made(key, nil) }

// Give gives a stamp.
func (c *Chain) Give(doc uint64, reading, bound int) (Stamp, api.Errno) {
	if !c.isMade() {
		return Stamp{}, api.ErrNil
	}
	serial := len(c.stamps)
	if serial == MaxStamps {
		return Stamp{}, api.ErrMany
	}
	if !isTime(reading) || !isTime(bound) {
		return Stamp{}, api.ErrRange
	}
	before := c.before(c.stamps, serial)
	s := Stamp{Serial: serial, Doc: doc, Lo: max(reading-bound, before.Lo), Hi: min(reading+bound, MaxTime)}
	if s.Lo > s.Hi {
		return Stamp{}, api.ErrEmpty
	}
	s.Sign = c.sign(s, before)
	c.stamps = append(c.stamps, s)
	return s, api.OK
}

// Stamps returns the stamps of a chain.
func (c *Chain) Stamps() ([]Stamp, api.Errno) {
	if !c.isMade() {
		return nil, api.ErrNil
	}
	return slices.Clone(c.stamps), api.OK
}

// Root returns the root of a chain.
func (c *Chain) Root() (uint64, api.Errno) {
	if !c.isMade() {
		return 0, api.ErrNil
	}
	return root(c.stamps), api.OK
}

// Show returns the sides of a stamp.
func (c *Chain) Show(serial int) ([]Side, api.Errno) {
	if !c.isMade() {
		return nil, api.ErrNil
	}
	if !number.IsIndex(serial, len(c.stamps)) {
		return nil, api.ErrRange
	}
	return sides(c.stamps, serial), api.OK
}

// Copy returns an independent chain.
func (c *Chain) Copy() *Chain {
	if !c.isMade() {
		return nil
	}
	return made(c.key, slices.Clone(c.stamps))
}

// Verify reports whether stamps are a chain of a key.
func Verify(key uint64, l []Stamp) (int, api.Errno) {
	if len(l) > MaxStamps {
		return 0, api.ErrMany
	}
	g := signer{key}
	for i, s := range l {
		if e := g.fault(s, i, g.before(l, i)); e != api.OK {
			return i, e
		}
	}
	return len(l), api.OK
}

// Tight returns the tight intervals of stamps.
func Tight(l []Stamp) ([]api.Span, api.Errno) {
	if len(l) > MaxStamps {
		return nil, api.ErrMany
	}
	tight := make([]api.Span, len(l))
	greatest, least := 0, MaxTime
	for i, s := range l {
		if !s.hasTimes() {
			return nil, api.ErrRange
		}
		greatest = max(greatest, s.Lo)
		tight[i].Lo = greatest
	}
	for i := len(l) - 1; i >= 0; i-- {
		least = min(least, l[i].Hi)
		tight[i].Hi = least
	}
	if slices.ContainsFunc(tight, isEmpty) {
		return nil, api.ErrEmpty
	}
	return tight, api.OK
}

// made is a chain that no one else has; it keeps l.
func made(key uint64, l []Stamp) *Chain {
	c := &Chain{signer: signer{key}, stamps: l}
	c.self = c
	return c
}

func (c *Chain) isMade() bool { return c != nil && c.self == c }

// before is the stamp before stamp i of l, which need not be there. What stands
// before the first one has a sign, and a Lo that is no limit for it.
func (g signer) before(l []Stamp, i int) Stamp {
	if i == 0 {
		return Stamp{Sign: Mix(g.key, 3)}
	}
	return l[i-1]
}

// sign is the sign of s, which follows the stamp before.
func (g signer) sign(s, before Stamp) uint64 {
	sign := before.Sign
	for _, n := range [...]uint64{uint64(s.Serial), s.Doc, uint64(s.Lo), uint64(s.Hi), g.key} {
		sign = Mix(sign, n)
	}
	return sign
}

// fault is the error of a stamp of a chain.
func (g signer) fault(s Stamp, serial int, before Stamp) api.Errno {
	switch {
	case s.Serial != serial:
		return api.ErrStamp
	case !s.hasTimes():
		return api.ErrRange
	case s.Lo > s.Hi:
		return api.ErrEmpty
	case s.Lo < before.Lo:
		return api.ErrOrder
	case s.Sign != g.sign(s, before):
		return api.ErrFalse
	}
	return api.OK
}

func isEmpty(s api.Span) bool { return s.Lo > s.Hi }
