package alarm

import (
	"meridian/api"
	"meridian/counter"
)

// Explains reports whether a set explains a case.
func Explains(c Case, set []int) (bool, api.Errno) {
	if e := checkSet(c, set); e != api.OK {
		return false, e
	}
	return c.isExplained(maskOf(set)), api.OK
}

// Conflict returns a conflict that stands without a set.
func Conflict(c Case, set []int) ([]counter.Use, api.Errno) {
	if e := checkSet(c, set); e != api.OK {
		return nil, e
	}
	u := c.conflict(maskOf(set))
	if len(u) == 0 {
		return nil, api.ErrNone
	}
	return u, api.OK
}

// Rest returns the narrowest matrix of what stands without a set.
func Rest(c Case, set []int) ([][]int, api.Errno) {
	if e := checkSet(c, set); e != api.OK {
		return nil, e
	}
	bounds, _ := c.standing(maskOf(set))
	return counter.Narrow(c.Clocks, bounds)
}

func (c Case) isExplained(set mask) bool { return len(c.conflict(set)) == 0 }

// conflict is one whose items stand without a set, or nil if the set explains the
// case.
func (c Case) conflict(set mask) []counter.Use {
	bounds, items := c.standing(set)
	u, _ := counter.Contradict(c.Clocks, bounds) // of a case that is allowed it has ErrNone only
	for i := range u {
		u[i].Bound = items[u[i].Bound]
	}
	return u
}

// standing has the bounds of the items that stand without a set, and the indices
// of these items.
func (c Case) standing(set mask) (bounds []counter.Bound, items []int) {
	for i, x := range c.Items {
		if maskOf(x.Parts)&set == 0 {
			bounds = append(bounds, x.Bound)
			items = append(items, i)
		}
	}
	return bounds, items
}
