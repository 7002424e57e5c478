package alarm_test

import (
	"math"
	"math/rand"
	"slices"
	"testing"

	"meridian/alarm"
	"meridian/api"
	"meridian/counter"
)

// refuse checks that all functions return the error of a case first, and nothing
// with it.
func refuse(t *testing.T, c alarm.Case, want api.Errno) {
	t.Helper()
	if e := alarm.Check(c); e != want {
		t.Error("Check", e, want)
	}
	for _, set := range [][]int{nil, {-1}} {
		if is, e := alarm.Explains(c, set); is || e != want {
			t.Error("Explains", is, e, want)
		}
		if u, e := alarm.Conflict(c, set); len(u) != 0 || e != want {
			t.Error("Conflict", u, e, want)
		}
		if m, e := alarm.Rest(c, set); len(m) != 0 || e != want {
			t.Error("Rest", m, e, want)
		}
		for _, proof := range [][][]counter.Use{nil, {{up(0)}}, make([][]counter.Use, 6201)} {
			if e := alarm.Verify(c, set, proof); e != want {
				t.Error("Verify", e, want)
			}
		}
	}
	for _, most := range []int{0, 5, -1, 6} {
		if l, e := alarm.Least(c, most); len(l) != 0 || e != want {
			t.Error("Least", l, e, want)
		}
		if set, proof, e := alarm.Prove(c, most); len(set) != 0 || len(proof) != 0 || e != want {
			t.Error("Prove", set, proof, e, want)
		}
		if l, e := alarm.Suspects(c, most); len(l) != 0 || e != want {
			t.Error("Suspects", l, e, want)
		}
	}
}

// P13.1: how many clocks, parts and items there can be, and that this comes first.
func TestCaseLimits(t *testing.T) {
	wrong := item(3, 3, 1, 0, -1)
	right := item(0, 1, 0, 0)
	for _, n := range append(far, -1, 0, 17) {
		refuse(t, alarm.Case{Clocks: n}, api.ErrMany)
		refuse(t, alarm.Case{Clocks: n, Parts: 20, Items: []alarm.Item{right, wrong}}, api.ErrMany)
	}
	for _, n := range append(far, -1, 21, 32, 33, 64) {
		refuse(t, alarm.Case{Clocks: 2, Parts: n}, api.ErrMany)
		refuse(t, alarm.Case{Clocks: 16, Parts: n, Items: []alarm.Item{right, wrong}}, api.ErrMany)
	}
	for _, n := range []int{241, 242, 5000} {
		refuse(t, alarm.Case{Clocks: 2, Parts: 20, Items: slices.Repeat([]alarm.Item{right}, n)}, api.ErrMany)
		refuse(t, alarm.Case{Clocks: 2, Parts: 20, Items: slices.Repeat([]alarm.Item{wrong}, n)}, api.ErrMany)
	}
	for clocks := 1; clocks <= 16; clocks++ {
		for parts := range 21 {
			c := alarm.Case{Clocks: clocks, Parts: parts}
			if e := alarm.Check(c); e != api.OK {
				t.Error(clocks, parts, e)
			}
			if clocks > 1 {
				c.Items = slices.Repeat([]alarm.Item{item(clocks-1, 0, -1, 1)}, 240)
			}
			if is, e := alarm.Explains(c, nil); !is || e != api.OK {
				t.Error(clocks, parts, is, e)
			}
			if parts > 0 && clocks > 1 {
				c.Items[239].Parts = []int{parts - 1}
			}
			if e := alarm.Check(c); e != api.OK {
				t.Error(clocks, parts, e)
			}
		}
	}
}

// P13.1: the bounds that are none of a net, whichever item has them.
func TestBoundsOfItems(t *testing.T) {
	for _, x := range []alarm.Item{
		item(0, 0, 0, 0), item(2, 2, 0, 0), item(-1, 0, 0, 0), item(0, -1, 0, 0), item(3, 0, 0, 0), item(0, 3, 0, 0), item(0, 15, 0, 0),
		item(0, 1, 1, 0), item(0, 1, phase, -phase), item(0, 1, -phase-1, 0), item(0, 1, 0, phase+1), item(0, 1, phase+1, phase+1), item(0, 1, -phase-1, -phase-1),
		item(0, 1, math.MinInt, 0), item(0, 1, 0, math.MaxInt), item(0, 1, math.MinInt, math.MaxInt), item(math.MinInt, 1, 0, 0), item(0, math.MaxInt, 0, 0),
	} {
		for i := range 3 {
			c := alarm.Case{Clocks: 3, Parts: 1, Items: []alarm.Item{item(0, 1, -phase, phase, 0), item(1, 2, phase, phase), item(2, 0, -phase, -phase)}}
			if e := alarm.Check(c); e != api.OK {
				t.Error(e)
			}
			c.Items[i].Bound = x.Bound
			refuse(t, c, api.ErrAlarm)
		}
	}
	refuse(t, alarm.Case{Clocks: 1, Items: []alarm.Item{item(0, 0, 0, 0)}}, api.ErrAlarm)
	refuse(t, alarm.Case{Clocks: 16, Items: []alarm.Item{item(15, 16, 0, 0)}}, api.ErrAlarm)
}

// P13.1: the parts of an item that are not right, whichever item has them.
func TestPartsOfItems(t *testing.T) {
	for _, x := range [][]int{
		{-1}, {7}, {0, 7}, {-1, 0}, {1, 0}, {0, 0}, {6, 6}, {0, 1, 1}, {0, 2, 1}, {5, 6, 5}, {0, 1, 2, 3, 4, 4}, {1, 2, 3, 4, 5, 0},
		{0, 1, 2, 3, 4, 5, 6}, {0, 1, 2, 3, 4, 5, 5}, {20}, {32}, {63}, {64}, {math.MinInt}, {math.MaxInt}, {0, math.MaxInt}, {math.MinInt, 0},
	} {
		for i := range 3 {
			c := alarm.Case{Clocks: 3, Parts: 7, Items: []alarm.Item{item(0, 1, 0, 0, 6), item(1, 2, 0, 0), item(2, 0, 0, 0, 0, 1, 2, 3, 4, 6)}}
			if e := alarm.Check(c); e != api.OK {
				t.Error(e)
			}
			c.Items[i].Parts = x
			refuse(t, c, api.ErrAlarm)
		}
	}
	refuse(t, alarm.Case{Clocks: 2, Items: []alarm.Item{item(0, 1, 0, 0, 0)}}, api.ErrAlarm)
}

// P13.1: what is no set of parts.
func TestSets(t *testing.T) {
	c := triangle(3) // a set that does not explain it is none of the other errors
	for _, set := range [][]int{{-1}, {5}, {0, 5}, {-1, 0}, {0, 0}, {1, 0}, {0, 2, 1}, {0, 1, 2, 3, 4, 5}, {0, 1, 2, 3, 4, 4}, {20}, {32}, {64}, {math.MinInt}, {math.MaxInt}, make([]int, 10000)} {
		if is, e := alarm.Explains(c, set); is || e != api.ErrArg {
			t.Error(set, is, e)
		}
		if u, e := alarm.Conflict(c, set); len(u) != 0 || e != api.ErrArg {
			t.Error(set, u, e)
		}
		if m, e := alarm.Rest(c, set); len(m) != 0 || e != api.ErrArg {
			t.Error(set, m, e)
		}
		for _, proof := range [][][]counter.Use{nil, {nil}, make([][]counter.Use, 6201)} {
			if e := alarm.Verify(c, set, proof); e != api.ErrArg {
				t.Error(set, e)
			}
		}
	}
	for _, set := range subsets(5, 5) {
		if is, e := alarm.Explains(c, set); is != meet(set, []int{0, 1, 2}) || e != api.OK {
			t.Error(set, is, e)
		}
	}
	c = alarm.Case{Clocks: 2, Parts: 20, Items: []alarm.Item{item(0, 1, 0, 0), item(0, 1, 1, 1, 19)}}
	if is, e := alarm.Explains(c, all(20)); !is || e != api.OK {
		t.Error(is, e)
	}
}

// P13.2: the examples of the chapter.
func TestExampleOfConflict(t *testing.T) {
	u := must[[]counter.Use](t)(alarm.Conflict(triangle(3), nil))
	if len(u) != 3 || !isConflict(triangle(3), u) {
		t.Error(u)
	}
	for _, set := range [][]int{{0}, {1}, {2}, {0, 1, 2, 3, 4}} {
		if u, e := alarm.Conflict(triangle(3), set); len(u) != 0 || e != api.ErrNone {
			t.Error(set, u, e)
		}
	}
	u = must[[]counter.Use](t)(alarm.Conflict(triangle(4), []int{0}))
	if len(u) != 3 || !isConflict(triangle(4), u) || hits(triangle(4), []int{0}, u) {
		t.Error(u)
	}
	m := must[[][]int](t)(alarm.Rest(triangle(5), []int{1}))
	if !same(m, [][]int{{0, 3, 9}, {-1, 0, 8}, {-7, -4, 0}}) {
		t.Error(m)
	}
	for _, set := range [][]int{nil, {0}, {2}, {0, 2}} {
		if m, e := alarm.Rest(triangle(5), set); len(m) != 0 || e != api.ErrEmpty {
			t.Error(set, m, e)
		}
	}
}

// P13.2: whether sets explain small cases, against all numbers of the clocks.
func TestExplains(t *testing.T) {
	r := rand.New(rand.NewSource(1))
	explained, not := 0, 0
	for range 1500 {
		c := smallCase(r)
		for _, set := range subsets(c.Parts, c.Parts) {
			want := slowExplains(c, set)
			if is, e := alarm.Explains(c, set); is != want || e != api.OK {
				t.Fatal(c, set, is, e)
			}
			if fastExplains(c, set) != want {
				t.Fatal("the shortest ways are wrong", c, set)
			}
			if want {
				explained++
			} else {
				not++
			}
		}
	}
	if explained < 1000 || not < 1000 {
		t.Error(explained, not)
	}
}

// P13.2: conflicts are conflicts, of items that stand, and there is one just if the
// set does not explain the case; what stands is as narrow as counter says.
func TestConflictAndRest(t *testing.T) {
	r := rand.New(rand.NewSource(2))
	for range 4000 {
		clocks := 2 + r.Intn(15)
		c := anyCase(r, clocks, r.Intn(21), r.Intn(4*clocks), 1+r.Intn(6))
		set := anyParts(r, c.Parts, 20)
		u, e := alarm.Conflict(c, set)
		m, f := alarm.Rest(c, set)
		if fastExplains(c, set) {
			want := must[[][]int](t)(counter.Narrow(c.Clocks, standing(c, set)))
			if len(u) != 0 || e != api.ErrNone || !same(m, want) || f != api.OK {
				t.Fatal(c, set, u, e, m, f)
			}
			continue
		}
		if len(u) > c.Clocks || e != api.OK || !isConflict(c, u) || hits(c, set, u) || len(m) != 0 || f != api.ErrEmpty {
			t.Fatal(c, set, u, e, m, f)
		}
	}
}

// P13.2: the longest conflict, by the greatest numbers and by one.
func TestLongConflict(t *testing.T) {
	for _, x := range []struct {
		between, across int
		want            bool
	}{
		{0, 0, true}, {0, 1, false}, {0, -1, false}, {0, phase, false}, {phase, phase, false}, {phase, -phase, false}, {-phase, phase, false}, {-phase, -phase, false},
		{66666666666666, 999999999999990, true}, {66666666666666, 999999999999991, false}, {-66666666666666, -999999999999991, false},
	} {
		c := alarm.Case{Clocks: 16, Parts: 16, Items: []alarm.Item{item(0, 15, x.across, x.across, 15)}}
		for i := range 15 {
			c.Items = append(c.Items, item(i, i+1, x.between, x.between, i))
		}
		if is, e := alarm.Explains(c, nil); is != x.want || e != api.OK {
			t.Error(x, is, e)
		}
		if u, e := alarm.Conflict(c, nil); !x.want && (len(u) != 16 || !isConflict(c, u) || e != api.OK) {
			t.Error(x, u, e)
		}
		for part := range 16 {
			if is, e := alarm.Explains(c, []int{part}); !is || e != api.OK {
				t.Error(x, part, is, e)
			}
		}
	}
}

// P13.2: what is unknown is open; a net without items has no bounds at all.
func TestRestOfNothing(t *testing.T) {
	const open = 100000000000000000
	if m := must[[][]int](t)(alarm.Rest(alarm.Case{Clocks: 1}, nil)); !same(m, [][]int{{0}}) {
		t.Error(m)
	}
	c := alarm.Case{Clocks: 2, Parts: 2, Items: []alarm.Item{item(0, 1, 3, 5, 1)}}
	if m := must[[][]int](t)(alarm.Rest(c, []int{0})); !same(m, [][]int{{0, 5}, {-3, 0}}) {
		t.Error(m)
	}
	for _, set := range [][]int{{1}, {0, 1}} {
		if m := must[[][]int](t)(alarm.Rest(c, set)); !same(m, [][]int{{0, open}, {open, 0}}) {
			t.Error(set, m)
		}
	}
}

// P13.6: a set that has more parts than one that explains a case explains it, too;
// and a set explains a case just if it hits all conflicts.
func TestHits(t *testing.T) {
	r := rand.New(rand.NewSource(3))
	for range 400 {
		c := smallCase(r)
		l := conflicts(c)
		for _, set := range subsets(c.Parts, c.Parts) {
			missed := slices.ContainsFunc(l, func(u []counter.Use) bool { return !hits(c, set, u) })
			is := must[bool](t)(alarm.Explains(c, set))
			if is == missed {
				t.Fatal(c, set, is)
			}
			for part := range c.Parts {
				more := slices.Compact(slices.Sorted(slices.Values(append(slices.Clone(set), part))))
				if is && !must[bool](t)(alarm.Explains(c, more)) {
					t.Fatal(c, set, more)
				}
			}
		}
	}
}
