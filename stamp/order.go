package stamp

import (
	"cmp"
	"iter"
	"slices"

	"meridian/api"
	"meridian/number"
)

// record is what is known of the order of stamps.
type record struct {
	sizes   []int
	crosses []Cross // in the order of their Serials
}

// Order returns what is known of the order of two stamps.
func Order(sizes []int, l []Cross, a, b Place) (int, []Place, api.Errno) {
	r, e := newRecord(sizes, l, a, b)
	if e != api.OK {
		return 0, nil, e
	}
	if way := r.way(a, b); way != nil {
		return -1, way, api.OK
	}
	if way := r.way(b, a); way != nil {
		return 1, way, api.OK
	}
	return 0, nil, api.OK
}

// Since returns what a stamp is known to be before.
func Since(sizes []int, l []Cross, a Place) ([]int, api.Errno) {
	r, e := newRecord(sizes, l, a)
	if e != api.OK {
		return nil, e
	}
	least := r.reached(a)
	least[a.Chain]++ // the stamp itself was reached first
	return least, api.OK
}

// newRecord is a record of which the places are asked. It keeps sizes, for as
// long as a call lasts.
func newRecord(sizes []int, l []Cross, asked ...Place) (record, api.Errno) {
	if !number.Within(len(sizes), 1, MaxChains) || len(l) > MaxCross {
		return record{}, api.ErrMany
	}
	for _, size := range sizes {
		if !number.Within(size, 0, MaxStamps) {
			return record{}, api.ErrRange
		}
	}
	r := record{sizes: sizes, crosses: sorted(l)}
	for _, x := range l {
		if x.Chain == x.From || !r.has(x.stamp()) || !r.has(x.last()) {
			return record{}, api.ErrArg
		}
	}
	for _, p := range asked {
		if !r.has(p) {
			return record{}, api.ErrRange
		}
	}
	if r.isCircular() {
		return record{}, api.ErrOrder
	}
	return r, api.OK
}

func sorted(l []Cross) []Cross {
	l = slices.Clone(l)
	slices.SortFunc(l, func(a, b Cross) int { return cmp.Compare(a.Serial, b.Serial) })
	return l
}

// stamp is the one that was given for a root.
func (x Cross) stamp() Place { return Place{x.Chain, x.Serial} }

// last is the last stamp of the root.
func (x Cross) last() Place { return Place{x.From, x.Upto} }

// has reports whether a stamp exists.
func (r record) has(p Place) bool {
	return number.IsIndex(p.Chain, len(r.sizes)) && number.IsIndex(p.Serial, r.sizes[p.Chain])
}

// isCircular reports whether a stamp would be known to be before itself. It can
// be so by way of a cross only, as in a chain all reasons lead to later stamps.
func (r record) isCircular() bool {
	for _, x := range r.crosses {
		if r.reached(x.stamp())[x.From] <= x.Upto {
			return true
		}
	}
	return false
}

// reached has for each chain the least serial that a is, or is known to be
// before; the size of the chain, if there is none.
func (r record) reached(a Place) []int {
	least := slices.Clone(r.sizes)
	least[a.Chain] = a.Serial
	for changed := true; changed; {
		changed = false
		for _, x := range r.crosses {
			if least[x.From] <= x.Upto && x.Serial < least[x.Chain] {
				least[x.Chain] = x.Serial
				changed = true
			}
		}
	}
	return least
}

// way is the first one of the shortest lists from a to b, or nil. Places are
// reached in the order of the least shortest lists that lead to them, so that the
// first reason that leads to a place is the one of its own list.
func (r record) way(a, b Place) []Place {
	from := map[Place]Place{a: a}
	for queue := []Place{a}; len(queue) > 0; queue = queue[1:] {
		p := queue[0]
		for next := range r.reasons(p) {
			if _, is := from[next]; is {
				continue
			}
			from[next] = p
			if next == b {
				return back(from, b)
			}
			queue = append(queue, next)
		}
	}
	return nil
}

// reasons yields the places that p is before by one reason, in their order.
func (r record) reasons(p Place) iter.Seq[Place] {
	return func(yield func(Place) bool) {
		next := Place{p.Chain, p.Serial + 1}
		for chain := range r.sizes {
			if chain == p.Chain && r.has(next) && !yield(next) {
				return
			}
			for _, x := range r.crosses {
				if x.Chain == chain && x.From == p.Chain && p.Serial <= x.Upto && !yield(x.stamp()) {
					return
				}
			}
		}
	}
}

// back is the list that led to p.
func back(from map[Place]Place, p Place) []Place {
	l := []Place{p}
	for from[p] != p {
		p = from[p]
		l = append(l, p)
	}
	slices.Reverse(l)
	return l
}
