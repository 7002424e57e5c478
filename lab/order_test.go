package lab_test

import (
	"slices"
	"testing"

	"meridian/api"
	"meridian/counter"
	"meridian/lab"
	"meridian/scale"
	"meridian/stamp"
	"meridian/steer"
	"meridian/world"
)

// refused lets a lab have an order, which must have an error and change nothing.
func refused(t *testing.T, l *lab.Lab, o lab.Order, want api.Errno) {
	t.Helper()
	before := all(l)
	if v := l.Act(o); !same(v, lab.Event{Error: want}) {
		t.Error(o, v, want)
	}
	if after := all(l); after != before {
		t.Error("changed", o, before, after)
	}
}

// acted lets a lab have orders, which must have no error, and returns what the last
// one has done.
func acted(t *testing.T, l *lab.Lab, orders ...lab.Order) lab.Event {
	t.Helper()
	var v lab.Event
	for i, o := range orders {
		if v = l.Act(o); v.Error != api.OK {
			t.Fatal(i, o, v)
		}
	}
	return v
}

// P14.2: the first example of the chapter.
func TestExampleOfTick(t *testing.T) {
	l := must[*lab.Lab](t)(lab.New(chapter(1000, 10000)))
	if v := l.Act(enter(1, 10)); !same(v, lab.Event{}) {
		t.Error(v)
	}
	m := must[[]scale.Member](t)(l.Members())
	if !same(m, []scale.Member{{Id: 1, H: 1000, Memory: 10}}) {
		t.Error(m)
	}
	v := l.Act(tick())
	if !same(v, lab.Event{Row: lab.Row{Second: 100, U: 1000, Error: 1000, Ids: []int{1}, Spans: []api.Span{{}}}}) {
		t.Error(v)
	}
	if n := must[int](t)(l.Now()); n != 100 {
		t.Error(n)
	}
	// u is 2000 now; the chart of the error 2 is 0, of 3 it is -1 as 4 and a
	// disturbance of 1 would be too great
	chart := must[[]int](t)(steer.Chart(chapter(0, 0).Plan))
	stepped, rate := 0, 0
	for i := 2; i < 40; i++ {
		v := acted(t, l, tick())
		at := must[int](t)(steer.Index(chapter(0, 0).Plan, i+stepped/1000, rate))
		rate = chart[at]
		if v.Row.Second != 100*i || v.Row.U != 1000*i || v.Row.Error != 1000*i+stepped || v.Row.Rate != rate {
			t.Fatal(i, v, stepped, rate)
		}
		stepped += 1000 * rate
		if n := must[int](t)(l.Shows()); n != 1000*i+stepped {
			t.Fatal(n)
		}
		if b := must[api.Span](t)(l.Bound()); b != span(1000*i+stepped, 1000*i+stepped) {
			t.Fatal(b)
		}
	}
	if stepped >= 0 {
		t.Error(stepped)
	}
}

// P14.2: the second example of the chapter, and stamps of one second.
func TestExampleOfGive(t *testing.T) {
	l := run(t, chapter(0, 0), enter(1, 10), tick())
	v := l.Act(give(9))
	first := v.Stamp
	if !same(v, lab.Event{Stamp: first}) || first.Lo != 99999999999 || first.Hi != 100000000001 || first.Doc != 9 || first.Serial != 0 {
		t.Error(v)
	}
	second := acted(t, l, give(8)).Stamp
	l2 := must[[]stamp.Stamp](t)(l.Stamps())
	if !same(l2, []stamp.Stamp{first, second}) {
		t.Error(l2)
	}
	if n, e := stamp.Verify(5, l2); n != 2 || e != api.OK {
		t.Error(n, e)
	}
}

// P14.2: readings and bounds of stamps are rounded towards the lesser number.
func TestRoundingOfStamps(t *testing.T) {
	for _, x := range []struct{ step, white, lo, hi int }{
		// the master shows the step, 100 seconds after the start
		{0, 0, -1, 1}, {999999, 0, -1, 1}, {1000000, 0, 0, 2}, {-1, 0, -2, 0}, {-1000000, 0, -2, 0}, {-1000001, 0, -3, -1},
	} {
		s := chapter(0, 0)
		s.World.Clocks[0].Events = []world.Event{{What: world.Step, At: 1, Size: x.step}}
		s.World.Clocks[1].Events = s.World.Clocks[0].Events
		s.Unit = 1000000000
		l := run(t, s, enter(1, 10), tick())
		v := acted(t, l, give(9)).Stamp
		if v.Lo != 100000000000+x.lo || v.Hi != 100000000000+x.hi {
			t.Error(x, v)
		}
	}
	// the bound of the realisation: what is known of the master, and the stepper
	for _, x := range []struct{ rate, bound int }{
		{0, 1}, {9990, 1}, {10000, 2}, {19990, 2}, {20000, 3}, {-9990, 1}, {-10000, 2}, {-20000, 3},
	} {
		s := chapter(0, 1000*x.rate)
		s.World.Clocks[1].Rate = s.World.Clocks[0].Rate
		s.World.Clocks[0].Phase, s.World.Clocks[1].Phase = 5000, 5000
		s.World.Clocks[0].Kind, s.World.Clocks[1].Kind = world.Quartz, world.Quartz
		l := run(t, s, enter(1, 10), tick())
		if n := must[int](t)(l.Shows()); n != 100*x.rate {
			t.Fatal(x, n)
		}
		v := acted(t, l, give(9)).Stamp
		reading := 100000000000 + below(100*x.rate, 1000000)
		if v.Lo != reading-x.bound || v.Hi != reading+x.bound {
			t.Error(x, v)
		}
	}
}

// P14.2: the bound of a stamp is that of the end of the realisation's that is further
// away.
func TestBoundOfStamps(t *testing.T) {
	for _, x := range []struct{ rate, bound int }{{0, 11}, {5000000, 16}, {-5000000, 16}, {4999999, 15}, {-4999999, 15}, {10000000, 21}, {-10000000, 21}} {
		s := chapter(0, x.rate)
		for k := range s.World.Clocks {
			s.World.Clocks[k].Kind, s.World.Clocks[k].Rate, s.World.Clocks[k].White = world.Tube, x.rate, 10000000
		}
		s.Unit, s.Every = 1000000000, 1000
		l := run(t, s, enter(1, 10), tick())
		reading := 1000000000000 + below(must[int](t)(l.Shows()), 1000000)
		v := acted(t, l, give(9)).Stamp
		if v.Lo != reading-x.bound || v.Hi != reading+x.bound {
			t.Error(x, reading, v)
		}
	}
}

// P14.1, P14.2: the keeper begins with the rate 0.
func TestFirstRate(t *testing.T) {
	for _, sign := range []int{-1, 1} {
		// at an error of 4 units the rate 1 must follow, or -1, and rates change by 1
		s := chapter(0, sign*40000)
		s.Plan = steer.Plan{Limit: 4, Rate: 1, Slew: 1, Noise: 1}
		l := run(t, s, enter(1, 10))
		if v := acted(t, l, tick()).Row; v.Error != 4000*sign || v.Rate != -sign {
			t.Error(v)
		}
	}
}

// P14.2: orders that are none.
func TestNoOrder(t *testing.T) {
	l := run(t, chapter(0, 0), enter(1, 10), tick(), give(1))
	for _, kind := range append(far, -1, 0, 5, 6) {
		refused(t, l, lab.Order{Kind: lab.Kind(kind), Clock: 1, Count: 1, Doc: 1}, api.ErrCommand)
	}
}

// P14.2: what is wrong with an Enter, and what comes first.
func TestErrorsOfEnter(t *testing.T) {
	s := chapter(1000, 0)
	s.Counter.Range = 4000
	s.World.Clocks = append(s.World.Clocks,
		world.Clock{Kind: world.Tube, Events: []world.Event{{What: world.Stop, At: 50}}},
		world.Clock{Kind: world.Tube, Events: []world.Event{{What: world.Step, At: 50, Size: 1000}}},
		world.Clock{Kind: world.Tube, White: 5000},
		world.Clock{Kind: world.Tube, Phase: scale.MaxDiff + 1},
	)
	l := run(t, s, enter(1, 10))
	for _, n := range append(far, -1, 6, 16) {
		refused(t, l, enter(n, 0), api.ErrClock)
	}
	for _, n := range append(far, 0, 1001, 1) {
		refused(t, l, enter(0, n), api.ErrArg)
	}
	refused(t, l, enter(4, 0), api.ErrLarge)
	refused(t, l, enter(5, 1), api.ErrRange)
	for _, n := range append(far, -1, 0, 1001) {
		refused(t, l, enter(2, n), api.ErrRange)
		refused(t, l, enter(1, n), api.ErrRange)
	}
	refused(t, l, enter(1, 10), api.ErrTwice)
	acted(t, l, tick())
	refused(t, l, enter(2, 0), api.ErrStop)
	refused(t, l, enter(2, 1), api.ErrStop)
	refused(t, l, enter(3, 0), api.ErrEmpty)
	refused(t, l, enter(3, 1), api.ErrEmpty)
	refused(t, l, enter(1, 1), api.ErrTwice)
	acted(t, l, leave(1), enter(1, 1000), leave(1), enter(1, 1))
}

// P14.2: a member has the difference and the present second with which it enters, and
// as it leaves the others stay.
func TestEnterAndLeave(t *testing.T) {
	s := chapter(1000, 0)
	s.World.Clocks = append(s.World.Clocks, world.Clock{Kind: world.Tube, Phase: -500, Rate: 1000}, world.Clock{Kind: world.Tube, Phase: 77})
	l := run(t, s, enter(3, 1000), enter(1, 7), tick(), enter(2, 9))
	want := []scale.Member{{Id: 3, H: 77, Memory: 1000, Misses: []int{0}}, {Id: 1, H: 1000, Memory: 7, Misses: []int{0}}, {Id: 2, H: -400, Memory: 9, Since: 1}}
	if m := must[[]scale.Member](t)(l.Members()); !same(m, want) {
		t.Error(m)
	}
	if v := l.Act(leave(3)); !same(v, lab.Event{}) {
		t.Error(v)
	}
	if m := must[[]scale.Member](t)(l.Members()); !same(m, want[1:]) {
		t.Error(m)
	}
	for _, n := range append(far, -1, 0, 3, 4) {
		refused(t, l, leave(n), api.ErrMember)
	}
	v := acted(t, l, enter(3, 1), tick())
	if !slices.Equal(v.Row.Ids, []int{1, 2, 3}) {
		t.Error("not in the order of the members", v)
	}
}

// P14.2: the last second, and a master that stops.
func TestLastSecond(t *testing.T) {
	s := chapter(0, 0)
	s.Every = 20000
	l := run(t, s, enter(1, 10))
	for range 50 {
		acted(t, l, tick())
	}
	if n := must[int](t)(l.Now()); n != 1000000 {
		t.Error(n)
	}
	refused(t, l, tick(), api.ErrTime)
	acted(t, l, leave(1))
	refused(t, l, tick(), api.ErrTime)

	s.Every = 19999
	s.World.Clocks[0].Events = []world.Event{{What: world.Stop, At: 999951}}
	l = run(t, s, enter(1, 10))
	for range 50 {
		acted(t, l, tick())
	}
	refused(t, l, tick(), api.ErrTime)

	s.World.Clocks[0].Events[0].At = 999950
	l = run(t, s, enter(1, 10))
	for range 49 {
		acted(t, l, tick())
	}
	refused(t, l, tick(), api.ErrStop)
	acted(t, l, leave(1))
	refused(t, l, tick(), api.ErrStop)
	acted(t, l, give(1), enter(1, 3))
}

// P14.2: the errors of scale.Take and steer.Drive in a Tick.
func TestErrorsOfTick(t *testing.T) {
	s := chapter(scale.MaxDiff-5, 0)
	s.World.Clocks[1].Rate = 100
	s.World.Clocks = append(s.World.Clocks, world.Clock{Kind: world.Tube, Events: []world.Event{{What: world.Stop, At: 250}}})
	l := run(t, s)
	refused(t, l, tick(), api.ErrNone)
	acted(t, l, enter(1, 5))
	refused(t, l, tick(), api.ErrRange)
	acted(t, l, leave(1))
	refused(t, l, tick(), api.ErrNone)
	acted(t, l, enter(2, 5), tick(), tick())
	refused(t, l, tick(), api.ErrNone)

	// the master goes away faster than the plan can follow
	s = chapter(0, 35000)
	l = run(t, s, enter(1, 10), tick())
	refused(t, l, tick(), api.ErrState)
	refused(t, l, tick(), api.ErrState)
	acted(t, l, leave(1))
	refused(t, l, tick(), api.ErrNone)
	acted(t, l, give(1))
}

// P14.2: an epoch that cannot be steered has not been taken: as the clock that is to
// blame leaves, all goes on as if there had been no such order.
func TestUndone(t *testing.T) {
	s := chapter(1000, 0)
	s.World.Clocks = append(s.World.Clocks, world.Clock{Kind: world.Tube, Rate: 1000000}, world.Clock{Kind: world.Tube, Phase: 4})
	s.Counter.Range = 1000000
	s.World.Clocks[3].Events = []world.Event{{What: world.Step, At: 250, Size: 50000}}
	orders := []lab.Order{enter(1, 3), enter(3, 5), tick(), tick()}
	l, m := run(t, s, orders...), run(t, s, orders...)
	acted(t, m, leave(3))
	before := must[[]scale.Member](t)(l.Members())
	for range 3 {
		acted(t, l, enter(2, 3))
		// clock 3 is lost, and clock 2 is far from what is expected of it
		refused(t, l, tick(), api.ErrState)
		acted(t, l, leave(2))
	}
	if after := must[[]scale.Member](t)(l.Members()); !same(before, after) {
		t.Error(before, after)
	}
	acted(t, l, leave(3))
	for range 20 {
		if v, w := acted(t, l, tick()), acted(t, m, tick()); !same(v, w) {
			t.Fatal(v, w)
		}
	}
	if all(l) != all(m) {
		t.Error(all(l), all(m))
	}
}

// P14.2: the log of the keeper is full after so many epochs.
func TestFullLog(t *testing.T) {
	s := chapter(0, 0)
	s.Every = 1
	l := run(t, s, enter(1, 10))
	for range steer.MaxLog {
		acted(t, l, tick())
	}
	refused(t, l, tick(), api.ErrMany)
	acted(t, l, leave(1))
	refused(t, l, tick(), api.ErrNone)
	if n := len(must[[]lab.Row](t)(l.Rows())); n != steer.MaxLog {
		t.Error(n)
	}
}

// P14.2: the errors of stamp.Give.
func TestErrorsOfGive(t *testing.T) {
	l := run(t, chapter(0, 0))
	for i := range 1000 {
		if v := acted(t, l, give(uint64(i))).Stamp; v.Serial != i || v.Doc != uint64(i) || v.Lo != 0 || v.Hi != 1 {
			t.Fatal(v)
		}
	}
	refused(t, l, give(0), api.ErrMany)

	// what is shown at the second 0 is below it for one seed and above for another
	s := chapter(0, 0)
	s.World.Clocks[0].White = 100000
	below, above := 0, 0
	for seed := range uint64(50) {
		s.World.Seed = seed
		l := run(t, s)
		if must[int](t)(l.Shows()) < 0 {
			below++
			refused(t, l, give(1), api.ErrRange)
		} else {
			above++
			acted(t, l, give(1))
		}
	}
	if below < 10 || above < 10 {
		t.Error(below, above)
	}

	// at the last second there is no reading that is late
	for _, x := range []struct {
		step int
		e    api.Errno
	}{{0, api.OK}, {999999, api.OK}, {1000000, api.ErrRange}, {-5000000, api.OK}} {
		s := chapter(0, 0)
		s.Every, s.Unit = 20000, 10000000
		s.World.Clocks[0].Events = []world.Event{{What: world.Step, At: 1000000, Size: x.step}}
		s.World.Clocks[1].Events = s.World.Clocks[0].Events
		l := run(t, s, enter(1, 10))
		for range 50 {
			acted(t, l, tick())
		}
		v := l.Act(give(1))
		if v.Error != x.e || x.e == api.OK && v.Stamp.Hi != min(1000000000000000, 1000000000000001+x.step/1000000) {
			t.Error(x, v)
		}
	}
}

// P14.2: what a member that is lost, or does not run, has afterwards: its last span,
// made wider from its own second on.
func TestLostAndFound(t *testing.T) {
	s := chapter(1000, 0)
	s.Counter = counter.Counter{Factor: 1, Grid: 2, Range: 2000, Dead: 1}
	s.Unit = 1000000
	s.World.Clocks[1].Walk = 10
	s.World.Clocks[1].Events = []world.Event{{What: world.Step, At: 150, Size: 1000}, {What: world.Step, At: 250, Size: -1000}, {What: world.Stop, At: 450}, {What: world.Start, At: 550}}
	s.World.Clocks = append(s.World.Clocks, world.Clock{Kind: world.Tube})
	l := run(t, s, enter(1, 10), enter(2, 10))
	x := newSlow(s)
	x.act(enter(1, 10))
	x.act(enter(2, 10))
	for i, want := range []struct{ ids, lost []int }{
		{ids: []int{1, 2}}, {ids: []int{2}, lost: []int{1}}, {ids: []int{1, 2}}, {ids: []int{1, 2}}, {ids: []int{2}}, {ids: []int{1, 2}},
	} {
		v := acted(t, l, tick())
		if !slices.Equal(v.Row.Ids, want.ids) || !slices.Equal(v.Row.Lost, want.lost) || !same(v, x.act(tick())) {
			t.Error(i, v)
		}
	}
}

// P14.2: a member enters with the middle of its span, towards 0.
func TestMiddle(t *testing.T) {
	type sight struct{ phase, shown int }
	// the counter can be off by 5 either way, what is known of the clock by 1
	want := map[sight]int{{-5, -10}: -5, {-5, 0}: -4, {5, 0}: 4, {5, 10}: 5}
	seen := map[sight]bool{}
	for seed := range uint64(40) {
		for _, phase := range []int{-5, 5} {
			s := chapter(phase, 0)
			s.World.Seed, s.World.Clocks[1].White = seed, 1
			s.Counter.Grid, s.Counter.Range = 10, 20000
			shown := must[int](t)(counter.Observe(s.Counter, s.World, 1, 0, 0))
			m := must[[]scale.Member](t)(run(t, s, enter(1, 1)).Members())
			if m[0].H != want[sight{phase, shown}] {
				t.Error(phase, shown, m)
			}
			seen[sight{phase, shown}] = true
		}
	}
	if len(seen) != len(want) {
		t.Error(seen)
	}
}
