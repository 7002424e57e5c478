package world_test

import (
	"math"
	"testing"

	"meridian/api"
	"meridian/world"
)

// P1.1: numbers that were computed from the chapter's words by other means.
func TestMix(t *testing.T) {
	for _, c := range [][3]uint64{
		{0, 0, 0},
		{0, 1, 0x6d8ba87d91e2db7d},
		{1, 0, 0x94d049b940703707},
		{1, 2, 0x017974ce4a7d2623},
		{2, 1, 0x43eb15070ec602af},
		{42, 7, 0xdaf6c135f35efda9},
		{1 << 63, 3, 0x5cc74fe187c1d00e},
		{math.MaxUint64, math.MaxUint64, 0x86b59cd43d1a09d5},
	} {
		if z := world.Mix(c[0], c[1]); z != c[2] {
			t.Errorf("Mix(%d, %d) = %#x", c[0], c[1], z)
		}
	}
}

// P1.1: draws that were computed from the chapter's words by other means.
func TestDraw(t *testing.T) {
	for _, c := range []struct {
		seed                           uint64
		kind, clock, index, most, want int
	}{
		{42, 1, 0, 1, 1000, 486},
		{42, 2, 0, 1, 1000, -625},
		{42, 1, 1, 1, 1000, -930},
		{42, 1, 0, 2, 1000, 652},
		{0, 0, 0, 0, 5, -5},
		{0, 0, 0, 0, 1000000000000000, -1000000000000000},
		{math.MaxUint64, 3, 15, 1000000, 1000000000000000, 764042567611665},
		{7, math.MaxInt, math.MaxInt, math.MaxInt, 1000000000000000, -848511585164991},
		{9, 9, 9, 9, 0, 0},
	} {
		if n, e := world.Draw(c.seed, c.kind, c.clock, c.index, c.most); n != c.want || e != api.OK {
			t.Error(c, n, e)
		}
	}
}

// P1.1: a draw has each number within its bound, and no other one.
func TestDrawBounds(t *testing.T) {
	seen := map[int]bool{}
	for i := range 1000 {
		n, e := world.Draw(5, 3, 1, i, 3)
		if e != api.OK || n < -3 || n > 3 {
			t.Error(i, n, e)
		}
		seen[n] = true
	}
	if len(seen) != 7 {
		t.Error(seen)
	}
}

func TestDrawErrors(t *testing.T) {
	for _, l := range [][4]int{
		{-1, 0, 0, 5}, {0, -1, 0, 5}, {0, 0, -1, 5}, {0, 0, 0, -1}, {0, 0, 0, 1000000000000001},
		{math.MinInt, 0, 0, 0}, {0, math.MinInt, 0, 0}, {0, 0, math.MinInt, 0}, {0, 0, 0, math.MinInt}, {0, 0, 0, math.MaxInt},
	} {
		if n, e := world.Draw(1, l[0], l[1], l[2], l[3]); n != 0 || e != api.ErrArg {
			t.Error(l, n, e)
		}
	}
}
