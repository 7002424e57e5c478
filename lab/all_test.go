package lab_test

import (
	"math"
	"math/rand"
	"slices"
	"testing"

	"meridian/api"
	"meridian/calendar"
	"meridian/circular"
	"meridian/lab"
	"meridian/scale"
	"meridian/stamp"
	"meridian/world"
)

// R5: nil labs, and those that no function of the package returned.
func TestNoLab(t *testing.T) {
	made := run(t, chapter(1000, 0), enter(1, 1), tick(), give(1))
	byValue := *made
	for i, l := range []*lab.Lab{nil, {}, new(lab.Lab), &byValue} {
		for _, o := range []lab.Order{{}, enter(1, 1), leave(1), tick(), give(1), {Kind: 9}} {
			if v := l.Act(o); !same(v, lab.Event{Error: api.ErrNil}) {
				t.Error(i, o, v)
			}
		}
		if n, e := l.Now(); n != 0 || e != api.ErrNil {
			t.Error(i, n, e)
		}
		if x, e := l.Rows(); x != nil || e != api.ErrNil {
			t.Error(i, x, e)
		}
		if x, e := l.Stamps(); x != nil || e != api.ErrNil {
			t.Error(i, x, e)
		}
		if x, e := l.Members(); x != nil || e != api.ErrNil {
			t.Error(i, x, e)
		}
		if n, e := l.Shows(); n != 0 || e != api.ErrNil {
			t.Error(i, n, e)
		}
		if b, e := l.Bound(); b != span(0, 0) || e != api.ErrNil {
			t.Error(i, b, e)
		}
		if x, e := l.Frame(); x != nil || e != api.ErrNil {
			t.Error(i, x, e)
		}
		if x, e := l.Line(); x != "" || e != api.ErrNil {
			t.Error(i, x, e)
		}
		if x, e := l.Packet(); x != nil || e != api.ErrNil {
			t.Error(i, x, e)
		}
		for _, n := range []int{1, -1} {
			if x, e := l.Reports(n, n, n); x != nil || e != api.ErrNil {
				t.Error(i, x, e)
			}
			if x, e := l.Blame(n); x != nil || e != api.ErrNil {
				t.Error(i, x, e)
			}
		}
	}
	if n := must[int](t)(made.Now()); n != 100 {
		t.Error(n)
	}
}

// full is a setup with everything in it that could be shared.
func full() lab.Setup {
	s := chapter(1000, 200)
	s.Unit = 10000
	s.World.Clocks[0].Events = []world.Event{{What: world.Step, At: 1050, Size: 300}}
	s.World.Clocks[1].Events = []world.Event{{What: world.Step, At: 450, Size: 30000}, {What: world.Step, At: 750, Size: -30000}}
	s.World.Clocks = append(s.World.Clocks, world.Clock{Kind: world.Tube, Heat: 2}, world.Clock{Kind: world.Tube, White: 5})
	s.World.Chambers[0] = world.Chamber{Base: 20000, Swing: 50, Period: 500}
	return s
}

// R4: a lab keeps its own copy of its setup, and changes no argument.
func TestArguments(t *testing.T) {
	s, kept := full(), full()
	orders := []lab.Order{enter(1, 3), enter(2, 2), enter(3, 9), tick(), tick()}
	l, _, e := lab.Run(s, orders)
	if e != api.OK || !same(s, kept) || !same(orders, []lab.Order{enter(1, 3), enter(2, 2), enter(3, 9), tick(), tick()}) {
		t.Fatal(s, orders, e)
	}
	m := run(t, full(), orders...)
	// all that a lab could still look at
	s.World.Chambers[0] = world.Chamber{Base: 7, Swing: 9000, Period: 100}
	s.World.Clocks[0].Events[0] = world.Event{What: world.Stop, At: 220}
	s.World.Clocks[1].Events[0].Size = 77
	s.World.Clocks[2] = world.Clock{}
	s.World.Clocks[3].White = 100000
	s.Table.Leaps[0] = calendar.Leap{Day: 41317}
	clear(orders)
	for range 9 {
		if v, w := l.Act(tick()), m.Act(tick()); !same(v, w) || all(l) != all(m) {
			t.Fatal(v, w, all(l), all(m))
		}
	}
}

// R4: what a lab returns is not what it keeps.
func TestResults(t *testing.T) {
	orders := []lab.Order{enter(1, 3), enter(2, 2), enter(3, 9), tick(), give(4), tick(), tick(), tick(), tick()}
	l, m := run(t, full(), orders...), run(t, full(), orders...)
	event := acted(t, l, tick())
	acted(t, m, tick())
	want := all(m)
	for range 3 {
		rows := append(must[[]lab.Row](t)(l.Rows()), event.Row)
		for i := range rows {
			if len(rows[i].Ids) == 0 || len(rows[i].Spans) == 0 {
				t.Fatal(rows[i])
			}
			clear(append(rows[i].Ids, 8)[:len(rows[i].Ids)])
			clear(rows[i].Ids)
			clear(rows[i].Spans)
			clear(rows[i].Lost)
		}
		if len(rows[5].Lost) == 0 {
			t.Error("nothing was lost", rows)
		}
		clear(rows)
		clear(must[[]stamp.Stamp](t)(l.Stamps()))
		members := must[[]scale.Member](t)(l.Members())
		for _, x := range members {
			clear(x.Misses)
		}
		clear(members)
		reports := must[[]circular.Report](t)(l.Reports(1, 1, 1))
		for _, x := range reports {
			clear(x.Diffs)
		}
		clear(reports)
		sets := must[[][]int](t)(l.Blame(5))
		for _, x := range sets {
			clear(x)
		}
		clear(sets)
		clear(must[[]byte](t)(l.Packet()))
		if all(l) != want {
			t.Fatal(all(l), want)
		}
	}
	if v, w := acted(t, l, tick()), acted(t, m, tick()); !same(v, w) || all(l) != all(m) {
		t.Error(v, w)
	}
}

// R4: no two lists of a result share memory.
func TestListsOfResults(t *testing.T) {
	l := run(t, full(), enter(1, 3), enter(2, 2), enter(3, 9), tick(), tick(), tick())
	rows := must[[]lab.Row](t)(l.Rows())
	for i := range rows {
		before := slices.Clone(rows)
		for k := range before {
			before[k].Ids, before[k].Spans, before[k].Lost = slices.Clone(rows[k].Ids), slices.Clone(rows[k].Spans), slices.Clone(rows[k].Lost)
		}
		_, _, _ = append(rows[i].Ids, -1), append(rows[i].Spans, span(-1, -1)), append(rows[i].Lost, -1)
		if !same(rows, before) {
			t.Error(i, rows)
		}
	}
	reports := must[[]circular.Report](t)(l.Reports(1, 1, 1))
	for i := range reports {
		before := slices.Clone(reports)
		for k := range before {
			before[k].Diffs = slices.Clone(reports[k].Diffs)
		}
		_ = append(reports[i].Diffs, -1)
		if !same(reports, before) {
			t.Error(i, reports)
		}
	}
}

// R3: a nil list and an empty one are the same value.
func TestNilAndEmpty(t *testing.T) {
	s := chapter(1000, 0)
	s.Table.Leaps = nil
	l, events, e := lab.Run(s, nil)
	if e != api.OK || len(events) != 0 {
		t.Fatal(events, e)
	}
	for i := range s.World.Clocks {
		s.World.Clocks[i].Events = []world.Event{}
	}
	s.Table.Leaps = []calendar.Leap{}
	m, events, e := lab.Run(s, []lab.Order{})
	if e != api.OK || len(events) != 0 {
		t.Fatal(events, e)
	}
	for _, o := range []lab.Order{enter(1, 1), tick(), give(1)} {
		if v, w := l.Act(o), m.Act(o); !same(v, w) || v.Error != api.OK || all(l) != all(m) {
			t.Error(v, w)
		}
	}
}

// P9: nothing panics, whatever the arguments, and everything ends.
func TestAnyArguments(t *testing.T) {
	r := rand.New(rand.NewSource(10))
	numbers := append(far, -2, -1, 0, 1, 2, 3, 15, 16, 17, 41317, 88068, 1000000, 1000001, math.MaxInt/2)
	spoil := func(n *int) {
		if r.Intn(40) == 0 {
			*n = numbers[r.Intn(len(numbers))]
		}
	}
	built := 0
	for range 4000 {
		s := anySetup(r, 5)
		for _, n := range []*int{&s.Master, &s.Every, &s.Unit, &s.Start, &s.Counter.Factor, &s.Counter.Offset, &s.Counter.Range, &s.Counter.Dead, &s.Scale.Cap, &s.Scale.Keep, &s.Plan.Limit, &s.Plan.Rate, &s.Table.Base, &s.Table.Until} {
			spoil(n)
		}
		for i := range s.World.Clocks {
			spoil(&s.World.Clocks[i].Phase)
			spoil(&s.World.Clocks[i].Chamber)
			for k := range s.World.Clocks[i].Events {
				spoil(&s.World.Clocks[i].Events[k].At)
			}
		}
		if r.Intn(20) == 0 {
			s.World.Chambers = s.World.Chambers[:r.Intn(2)]
		}
		lab.Check(s)
		l, e := lab.New(s)
		if e == api.OK {
			built++
		}
		for range 10 {
			o := anyOrder(r, 6)
			spoil(&o.Clock)
			spoil(&o.Count)
			l.Act(o)
			most := r.Intn(6)
			spoil(&most)
			l.Blame(most)
			l.Reports(numbers[r.Intn(len(numbers))], r.Intn(14), r.Intn(3))
		}
		all(l)
	}
	if built < 500 {
		t.Error(built)
	}
	lab.Check(lab.Setup{})
	lab.New(lab.Setup{})
	lab.Run(lab.Setup{}, nil)
}
