package lab_test

import (
	"math/rand"
	"slices"
	"testing"

	"meridian/api"
	"meridian/circular"
	"meridian/counter"
	"meridian/lab"
	"meridian/scale"
	"meridian/world"
)

// pauses is a clock with a phase that stops at the first second, runs from the next
// one on, and so on.
func pauses(phase int, at ...int) world.Clock {
	c := world.Clock{Kind: world.Maser, Phase: phase}
	for i, s := range at {
		c.Events = append(c.Events, world.Event{What: world.Stop + world.What(i%2), At: s})
	}
	return c
}

// reported are the Diffs of the reports of a lab, by their clocks, nil for one that is
// gone.
func reported(t *testing.T, l *lab.Lab) map[int][]int {
	t.Helper()
	diffs, last := map[int][]int{}, -1
	for _, r := range must[[]circular.Report](t)(l.Reports(9, 4, 7)) {
		if r.Month != 9 || r.Lab != 4 || r.Version != 7 || r.Gone != (len(r.Diffs) == 0) || r.Clock <= last {
			t.Error(r)
		}
		diffs[r.Clock], last = r.Diffs, r.Clock
	}
	return diffs
}

// P14.5: which rows count for a report, and which clocks have one.
func TestReports(t *testing.T) {
	s := chapter(1000, 0)
	s.World.Clocks = append(s.World.Clocks, pauses(-300, 350), pauses(40, 150, 350), pauses(5, 50, 250, 550), pauses(6, 50))
	l := run(t, s, enter(5, 1), enter(4, 1), enter(3, 1), enter(2, 1), enter(1, 1))
	phases := [...]int{1: 1000, -300, 40, 5}
	want := map[int][5]int{ // by the number of rows: how many Diffs of each clock
		1: {1: 1, 1, 1, -1}, 2: {1: 2, 2, 1, -1}, 3: {1: 3, 3, 1, 1}, 4: {1: 4, 3, 1, 2}, 5: {1: 5, 3, 1, 3}, 6: {1: 6, 3, 1, 3},
		11: {1: 11, 3, 1, 3}, 12: {1: 12, 3, 1, 3}, 13: {1: 12, 2, 10, 3}, 14: {1: 12, 1, 11, 3}, 15: {1: 12, 0, 12, 2}, 16: {1: 12, 0, 12, 1}, 17: {1: 12, 0, 12, 0},
	}
	for n := 1; n <= 17; n++ {
		acted(t, l, tick())
		counts, is := want[n]
		if !is {
			continue
		}
		diffs := reported(t, l)
		for k := 1; k <= 5; k++ {
			d, has := diffs[k]
			if k == 5 || counts[k] < 0 {
				if has {
					t.Error(n, k, d)
				}
				continue
			}
			if !has || !slices.Equal(d, slices.Repeat([]int{phases[k]}, counts[k])) {
				t.Error(n, k, d)
			}
		}
	}
	acted(t, l, leave(1))
	for range 12 {
		acted(t, l, tick())
	}
	if d, has := reported(t, l)[1]; !has || len(d) != 0 {
		t.Error(d, has)
	}
}

// P14.5: a clock that was lost whenever it was looked for has no report.
func TestNeverSeen(t *testing.T) {
	s := chapter(1000, 0)
	s.World.Clocks = append(s.World.Clocks, world.Clock{Kind: world.Maser, Events: []world.Event{{What: world.Step, At: 50, Size: 70000}}})
	l := run(t, s, enter(1, 1), enter(2, 1), tick(), tick())
	if is := reported(t, l); !same(is, map[int][]int{1: {1000, 1000}}) {
		t.Error(is)
	}
}

// P14.5: numbers that are none of a report, Diffs that are none, and no rows; in this
// order.
func TestErrorsOfReports(t *testing.T) {
	bad := [][3]int{{-1, 1, 1}, {120, 1, 1}, {0, 0, 1}, {0, 13, 1}, {0, 1, 0}, {0, 1, 1001}}
	for _, n := range far {
		bad = append(bad, [3]int{n, 1, 1}, [3]int{0, n, 1}, [3]int{0, 1, n})
	}
	good := [][3]int{{0, 1, 1}, {119, 12, 1000}}
	s := chapter(1000000000, 0)
	s.World.Clocks = append(s.World.Clocks, world.Clock{Kind: world.Tube, Rate: 10})
	s.World.Clocks = append(s.World.Clocks, world.Clock{Kind: world.Tube, Phase: -1000000000})
	ask := func(l *lab.Lab, lists [][3]int, n int, want api.Errno) {
		t.Helper()
		for _, x := range lists {
			if r, e := l.Reports(x[0], x[1], x[2]); len(r) != n || e != want {
				t.Error(x, r, e)
			}
		}
	}
	l := run(t, s, enter(1, 1), enter(2, 1), enter(3, 1))
	ask(l, bad, 0, api.ErrLab)
	ask(l, good, 0, api.ErrNone)
	acted(t, l, tick())
	ask(l, bad, 0, api.ErrLab)
	ask(l, good, 3, api.OK)

	for _, rate := range []int{10, -10} {
		s.World.Clocks[1].Phase, s.World.Clocks[1].Rate = 100000000*rate, rate
		s.Counter.Grid = 1
		l = run(t, s, enter(2, 1), enter(1, 1), tick())
		ask(l, good, 0, api.ErrLab)
		acted(t, l, leave(1))
		for range 12 {
			ask(l, good, 0, api.ErrLab)
			acted(t, l, tick())
		}
		// no Diff of it counts any more
		ask(l, good, 2, api.OK)
		ask(l, bad, 0, api.ErrLab)
	}
}

// P14.5: reports are for the circular.
func TestReportsInCircular(t *testing.T) {
	s := chapter(1000, 200)
	s.World.Clocks = append(s.World.Clocks, pauses(-300, 350))
	s.Unit = 10000
	l := run(t, s, enter(1, 1), enter(2, 1), tick(), tick(), tick(), tick(), tick())
	b, n, e := circular.Load(must[[]circular.Report](t)(l.Reports(3, 2, 1)), nil)
	if n != 2 || e != api.OK {
		t.Fatal(n, e)
	}
	sheet := must[circular.Sheet](t)(b.Sheet(3, scale.Setup{Cap: 1000000, Gate: 1000, Keep: 5}, 20))
	if !same(sheet.Ids, []int{33, 34}) || len(sheet.Rows) != 5 || sheet.Rows[4].U != 100 || !same(sheet.Corrections, [][]int{{1000, 1000, 1000, 1000, 1000}, {-300, -300, -300}}) {
		t.Error(sheet)
	}
}

// stepped is a clock with a phase that steps by size at second 50.
func stepped(phase, size int) world.Clock {
	return world.Clock{Kind: world.Maser, Phase: phase, Events: []world.Event{{What: world.Step, At: 50, Size: size}}}
}

// withWalkers is the setup of a lab with some clocks, and with two more, a master and a
// member. These have no items in its case after 20 epochs: by then it is known of them
// that they can have walked so far that two turns of the counter are possible.
func withWalkers(clocks []world.Clock, grid, turn int) lab.Setup {
	s := chapter(0, 0)
	walker := world.Clock{Kind: world.Tube, Walk: turn / 10}
	s.World.Clocks = append(slices.Clone(clocks), walker, walker)
	s.Master, s.Unit = len(clocks), 1000000
	s.Counter.Grid, s.Counter.Range = grid, turn
	return s
}

// walked are the orders that follow.
func walked(clocks []world.Clock) []lab.Order {
	return append([]lab.Order{enter(len(clocks)+1, 1)}, slices.Repeat([]lab.Order{tick()}, 20)...)
}

// P14.5: the clocks to blame, if some do what is not known of them.
func TestBlame(t *testing.T) {
	known, noisy := world.Clock{Kind: world.Tube}, world.Clock{Kind: world.Tube, White: 200000}
	for i, x := range []struct {
		clocks []world.Clock
		want   [][]int
	}{
		{nil, [][]int{{}}},
		{[]world.Clock{known}, [][]int{{}}},
		{[]world.Clock{known, {Kind: world.Tube, Phase: 9, Rate: 77}}, [][]int{{}}},
		{[]world.Clock{known, stepped(0, 500)}, [][]int{{0}, {1}}},
		{[]world.Clock{known, stepped(70, 500), {Kind: world.Tube, Phase: -3}}, [][]int{{1}}},
		{[]world.Clock{stepped(0, 500), stepped(0, -500), known}, [][]int{{0, 1}, {0, 2}, {1, 2}}},
		{[]world.Clock{stepped(0, 500), stepped(0, 500), known, known}, [][]int{{0, 1}, {2, 3}}},
		{[]world.Clock{stepped(0, 500), stepped(0, 500), known}, [][]int{{2}}},
		{[]world.Clock{stepped(0, 500), stepped(0, 600), known, known}, [][]int{{0, 1}}},
		// a clock that does not run
		{[]world.Clock{stepped(0, 500), pauses(0, 60), known, known}, [][]int{{0}}},
		{[]world.Clock{stepped(0, 500), pauses(0, 60), known}, [][]int{{0}, {2}}},
		// a step by the Range, or by less than the counter can tell, is not seen
		{[]world.Clock{stepped(0, 100000), stepped(0, 5), known, known}, [][]int{{}}},
		// two turns are possible
		{[]world.Clock{stepped(0, 500), noisy, known, known}, [][]int{{0}}},
		{[]world.Clock{noisy, stepped(0, 500), noisy}, [][]int{{}}},
		// no five clocks explain it
		{[]world.Clock{known, known, known, known, known, known, stepped(0, 100), stepped(0, 200), stepped(0, 300), stepped(0, 400), stepped(0, 500), stepped(0, 600)}, nil},
	} {
		l := run(t, withWalkers(x.clocks, 20, 100000), walked(x.clocks)...)
		for most := range 6 {
			sets, e := l.Blame(most)
			if small := len(x.want) > 0 && len(x.want[0]) <= most; small && (e != api.OK || !same(sets, x.want)) || !small && (e != api.ErrLarge || sets != nil) {
				t.Error(i, most, sets, e)
			}
		}
		for _, most := range append(far, -1, 6) {
			if sets, e := l.Blame(most); sets != nil || e != api.ErrArg {
				t.Error(i, most, sets, e)
			}
		}
	}
}

// P14.5: clocks whose differences are all resolved, but with turns that contradict one
// another.
func TestBlameOfTurns(t *testing.T) {
	r := rand.New(rand.NewSource(11))
	found := 0
	for range 500 {
		var clocks []world.Clock
		for range 3 + r.Intn(4) {
			size := 350*r.Intn(3) + r.Intn(60)
			events := []world.Event{{What: world.Step, At: 50, Size: size}}
			clocks = append(clocks, world.Clock{Kind: world.Tube, White: 140 + r.Intn(80), Events: events})
		}
		grid := 1 + r.Intn(10)
		s := withWalkers(clocks, grid, 2*grid*(500/grid))
		s.World.Seed = r.Uint64()
		l, x := run(t, s, walked(clocks)...), newSlow(s)
		for _, o := range walked(clocks) {
			x.act(o)
		}
		for most := range 6 {
			sets, e := l.Blame(most)
			want, f := x.blame(most)
			if !same(sets, want) || e != f {
				t.Fatal(s, most, sets, e, want, f)
			}
		}
		// the bounds of pairs that have just one
		bounds, ofPair := x.bounds(), map[[2]int]int{}
		for _, b := range bounds {
			ofPair[[2]int{b.A, b.B}]++
		}
		resolved := slices.DeleteFunc(bounds, func(b counter.Bound) bool { return ofPair[[2]int{b.A, b.B}] > 1 })
		if !explains(len(s.World.Clocks), resolved, 0) {
			found++
		}
	}
	if found < 50 {
		t.Error(found)
	}
}

// P14.5: if each two of 16 clocks contradict what is known, the case has as many items
// as there can be. The member is followed by small steps to where no one expects it.
func TestGreatestCase(t *testing.T) {
	s := chapter(0, 0)
	s.Unit = 1000000
	s.World.Clocks = nil
	for k := range 16 {
		c := world.Clock{Kind: world.Tube, White: 10}
		for i := range 5 {
			if k == 1 || k > 1 && i == 0 {
				c.Events = append(c.Events, world.Event{What: world.Step, At: 50 + 100*i, Size: 30})
			}
		}
		if k > 1 {
			c.Events[0].Size = 1000 * k
		}
		s.World.Clocks = append(s.World.Clocks, c)
	}
	orders := []lab.Order{enter(1, 1), tick(), tick(), tick(), tick(), tick()}
	l, x := run(t, s, orders...), newSlow(s)
	for _, o := range orders {
		x.act(o)
	}
	if n := len(x.bounds()); n != 240 {
		t.Fatal(n)
	}
	for most := range 6 {
		if sets, e := l.Blame(most); sets != nil || e != api.ErrLarge {
			t.Error(most, sets, e)
		}
	}
}
