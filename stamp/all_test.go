package stamp_test

import (
	"math"
	"math/rand"
	"slices"
	"testing"

	"meridian/api"
	"meridian/stamp"
)

// R5, P11.1: nil chains, and those that no function of the package returned.
func TestNoChain(t *testing.T) {
	made := stamp.New(4)
	must[stamp.Stamp](t)(made.Give(1, 100, 5))
	byValue := *made
	for i, c := range []*stamp.Chain{nil, {}, new(stamp.Chain), &byValue} {
		for _, n := range append(far, 0) {
			if s, e := c.Give(1, n, n); (s != stamp.Stamp{}) || e != api.ErrNil {
				t.Error(i, n, s, e)
			}
			if l, e := c.Show(n); l != nil || e != api.ErrNil {
				t.Error(i, n, l, e)
			}
		}
		if l, e := c.Stamps(); l != nil || e != api.ErrNil {
			t.Error(i, l, e)
		}
		if n, e := c.Root(); n != 0 || e != api.ErrNil {
			t.Error(i, n, e)
		}
		if d := c.Copy(); d != nil {
			t.Error(i, d)
		}
	}
	if l := must[[]stamp.Stamp](t)(made.Stamps()); len(l) != 1 {
		t.Error(l)
	}
}

// R4: no argument is changed, and no result shares memory.
func TestMemory(t *testing.T) {
	r := rand.New(rand.NewSource(21))
	c := stamp.New(3)
	l := give(t, c, r, 5, 100)
	kept := slices.Clone(l)
	stamp.Verify(3, l)
	tight := must[[]api.Span](t)(stamp.Tight(l))
	stamp.RootOf(l)
	sides := must[[]stamp.Side](t)(c.Show(2))
	stamp.Belongs(l[2], sides, 0)
	if !slices.Equal(l, kept) || !slices.Equal(sides, slowSides(kept, 2)) {
		t.Error(l, sides)
	}
	clear(l)
	clear(tight)
	clear(sides)
	if g := must[[]stamp.Stamp](t)(c.Stamps()); !slices.Equal(g, kept) {
		t.Error(g)
	}
	if g := must[[]stamp.Side](t)(c.Show(2)); !slices.Equal(g, slowSides(kept, 2)) {
		t.Error(g)
	}
	l = append(must[[]stamp.Stamp](t)(c.Stamps()), stamp.Stamp{Doc: 9})
	must[stamp.Stamp](t)(c.Give(1, 100000, 0))
	if l[5].Doc != 9 || len(must[[]stamp.Stamp](t)(c.Stamps())) != 6 {
		t.Error(l)
	}

	sizes, crosses := []int{3, 3, 3}, []stamp.Cross{cross(2, 2, 1, 1), cross(2, 1, 0, 1), cross(1, 1, 0, 1)}
	keptSizes, keptCrosses := slices.Clone(sizes), slices.Clone(crosses)
	clear(must[[]int](t)(stamp.Since(sizes, crosses, place(0, 0))))
	stamp.Order(sizes, crosses, place(0, 0), place(2, 2))
	if !slices.Equal(sizes, keptSizes) || !slices.Equal(crosses, keptCrosses) {
		t.Error(sizes, crosses)
	}
	clear(must[[]int](t)(stamp.Since(sizes, nil, place(0, 2))))
	if !slices.Equal(sizes, keptSizes) {
		t.Error(sizes)
	}

	checks := []stamp.Check{check(5, 0, 3), check(1, 2, 4), check(9, 0, 1)}
	keptChecks := slices.Clone(checks)
	stamp.Audit(checks)
	stamp.Keeps(checks, ratio(0, 1), ratio(0, 1))
	stamp.Choose(checks, 1)
	if !slices.Equal(checks, keptChecks) {
		t.Error(checks)
	}
}

// R3: a nil list and an empty one are the same value.
func TestNilAndEmpty(t *testing.T) {
	for _, l := range [][]stamp.Stamp{nil, {}} {
		if n, e := stamp.Verify(3, l); n != 0 || e != api.OK {
			t.Error(n, e)
		}
		if g, e := stamp.Tight(l); len(g) != 0 || e != api.OK {
			t.Error(g, e)
		}
		if n, e := stamp.RootOf(l); n != 0 || e != api.OK {
			t.Error(n, e)
		}
	}
	for _, l := range [][]stamp.Side{nil, {}} {
		if !stamp.Belongs(stamp.Stamp{Sign: 4}, l, 4) {
			t.Error(l)
		}
	}
	for _, l := range [][]stamp.Cross{nil, {}} {
		if n, way, e := stamp.Order([]int{2}, l, place(0, 0), place(0, 1)); n != -1 || len(way) != 2 || e != api.OK {
			t.Error(n, way, e)
		}
		if n, e := stamp.Since([]int{}, l, place(0, 0)); n != nil || e != api.ErrMany {
			t.Error(n, e)
		}
	}
	for _, l := range [][]stamp.Check{nil, {}} {
		if f, e := stamp.Audit(l); (f != stamp.Fit{}) || e != api.ErrNone {
			t.Error(f, e)
		}
	}
}

// P9: nothing panics, whatever the arguments.
func TestAnyArguments(t *testing.T) {
	r := rand.New(rand.NewSource(22))
	numbers := append(far, -1, 0, 1, 2, 3, 5, 100000, 1000000, stamp.MaxAhead, math.MaxInt/2)
	any := func() int { return numbers[r.Intn(len(numbers))] }
	small := func() int {
		if r.Intn(8) == 0 {
			return any()
		}
		return r.Intn(4)
	}
	c := stamp.New(1)
	for range 20000 {
		stamps := make([]stamp.Stamp, r.Intn(6))
		for i := range stamps {
			stamps[i] = stamp.Stamp{Serial: any(), Doc: r.Uint64(), Lo: any(), Hi: any(), Sign: r.Uint64()}
		}
		sizes, crosses, checks := make([]int, r.Intn(8)), make([]stamp.Cross, r.Intn(6)), make([]stamp.Check, r.Intn(6))
		for i := range sizes {
			sizes[i] = small()
		}
		for i := range crosses {
			crosses[i] = cross(small(), small(), small(), small())
		}
		for i := range checks {
			checks[i] = check(small(), small(), small())
		}
		stamp.Verify(r.Uint64(), stamps)
		stamp.Tight(stamps)
		stamp.RootOf(stamps)
		stamp.Order(sizes, crosses, place(small(), small()), place(small(), small()))
		stamp.Since(sizes, crosses, place(small(), small()))
		stamp.Audit(checks)
		stamp.Keeps(checks, ratio(any(), any()), ratio(any(), any()))
		stamp.Choose(checks, small())
		c.Give(r.Uint64(), any(), any())
		c.Show(any())
	}
	if n, e := stamp.Verify(1, must[[]stamp.Stamp](t)(c.Stamps())); n == 0 || e != api.OK {
		t.Error(n, e)
	}
}
