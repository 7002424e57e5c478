package lab_test

import (
	"math/rand"
	"testing"

	"meridian/api"
	"meridian/calendar"
	"meridian/lab"
	"meridian/scale"
	"meridian/steer"
	"meridian/world"
)

// fault makes a setup wrong.
type fault struct {
	change func(s *lab.Setup)
	e      api.Errno
}

// faults are in the order in which they are looked for.
func faults() []fault {
	return []fault{
		{func(s *lab.Setup) { s.World.Chambers = nil }, api.ErrMany},
		{func(s *lab.Setup) { s.World.Chambers[0].Period = 1 }, api.ErrRange},
		{func(s *lab.Setup) { s.World.Clocks[1].Kind = 6 }, api.ErrClock},
		{func(s *lab.Setup) { s.World.Clocks[1].Events = []world.Event{{What: world.Step}} }, api.ErrTime},
		{func(s *lab.Setup) { s.Master = 2 }, api.ErrClock},
		{func(s *lab.Setup) { s.Counter.Grid = 3 }, api.ErrCount},
		{func(s *lab.Setup) { s.Every = 20001 }, api.ErrTime},
		{func(s *lab.Setup) { s.Scale.Cap = 0 }, api.ErrRange},
		{func(s *lab.Setup) { s.World.Clocks[0].Phase = scale.MaxDiff + 1 }, api.ErrRange},
		{func(s *lab.Setup) { s.Plan.Slew = 0 }, api.ErrSteer},
		{func(s *lab.Setup) { s.Unit = 0 }, api.ErrRange},
		{func(s *lab.Setup) { s.Plan.Noise = 5 }, api.ErrNone},
		{func(s *lab.Setup) { s.Table.Until = 0 }, api.ErrRange},
		{func(s *lab.Setup) { s.Table.Leaps[0].Step = 2 }, api.ErrLeap},
		{func(s *lab.Setup) { s.Start = -1 }, api.ErrRange},
	}
}

// checks checks that all that take a setup find an error of it.
func checks(t *testing.T, s lab.Setup, want api.Errno) {
	t.Helper()
	if e := lab.Check(s); e != want {
		t.Error("Check", e, want)
	}
	if l, e := lab.New(s); (l != nil) != (want == api.OK) || e != want {
		t.Error("New", l, e, want)
	}
	l, events, e := lab.Run(s, []lab.Order{give(1), {}})
	if (l != nil) != (want == api.OK) || (len(events) == 2) != (want == api.OK) || e != want {
		t.Error("Run", l, events, e, want)
	}
	if want == api.OK {
		want = api.ErrMany
	}
	if l, events, e := lab.Run(s, make([]lab.Order, 2001)); l != nil || events != nil || e != want {
		t.Error("Run of too many", l, events, e, want)
	}
}

// P14.1, P14.2: what is wrong with a setup, and what comes first.
func TestFaults(t *testing.T) {
	checks(t, chapter(1000, 10000), api.OK)
	for i, f := range faults() {
		s := chapter(0, 0)
		f.change(&s)
		checks(t, s, f.e)
		for _, g := range faults()[i+1:] {
			s := chapter(0, 0)
			g.change(&s)
			if len(s.World.Chambers) > 0 {
				f.change(&s)
			}
			checks(t, s, f.e)
		}
	}
}

// P14.1: the numbers of a setup that are just allowed, and just not.
func TestSetupLimits(t *testing.T) {
	total := must[int](t)(calendar.Total(chapter(0, 0).Table))
	for _, x := range []struct {
		name         string
		put          func(s *lab.Setup, n int)
		e            api.Errno
		right, wrong []int
	}{
		{"Master", func(s *lab.Setup, n int) { s.Master = n }, api.ErrClock, []int{0, 1}, append(far, -1, 2, 16)},
		{"Every", func(s *lab.Setup, n int) { s.Every = n }, api.ErrTime, []int{1, 2, 100, 19999, 20000}, append(far, -100, -1, 0, 20001, 20002)},
		{"Every with a Dead of 7", func(s *lab.Setup, n int) { s.Every, s.Counter.Dead = n, 7 }, api.ErrTime, []int{7, 14, 19999}, append(far, -7, 0, 1, 6, 8, 20, 20000, 20006)},
		{"Every with the greatest Dead", func(s *lab.Setup, n int) { s.Every, s.Counter.Dead = n, 20000 }, api.ErrTime, []int{20000}, []int{1, 10000, 40000}},
		{"Every with too great a Dead", func(s *lab.Setup, n int) { s.Every, s.Counter.Dead = n, 20001 }, api.ErrTime, nil, []int{0, 1, 20000, 20001}},
		{"Phase of the master", func(s *lab.Setup, n int) { s.World.Clocks[0].Phase = n }, api.ErrRange, []int{-1000000000000, 0, 1000000000000}, []int{-1000000000001, 1000000000001, -100000000000000, 100000000000000}},
		{"Phase of another clock", func(s *lab.Setup, n int) { s.World.Clocks[1].Phase = n }, api.ErrClock, []int{-1000000000001, 1000000000001, -100000000000000, 100000000000000}, []int{100000000000001}},
		{"Phase of another master", func(s *lab.Setup, n int) { s.World.Clocks[1].Phase, s.Master = n, 1 }, api.ErrRange, []int{-1000000000000, 1000000000000}, []int{-1000000000001, 1000000000001}},
		{"Unit", func(s *lab.Setup, n int) { s.Unit = n }, api.ErrRange, []int{1, 1000000000000}, append(far, -1, 0, 1000000000001)},
		{"Start", func(s *lab.Setup, n int) { s.Start = n }, api.ErrRange, []int{0, 1, total - 1}, append(far, -1, total, total+1)},
	} {
		for _, n := range x.right {
			s := chapter(0, 0)
			x.put(&s, n)
			checks(t, s, api.OK)
		}
		for _, n := range x.wrong {
			s := chapter(0, 0)
			x.put(&s, n)
			if e := lab.Check(s); e != x.e {
				t.Error(x.name, n, e)
			}
		}
	}
	// without any safe state, and without one of the rate 0 alone
	for _, p := range []steer.Plan{{Limit: 2, Rate: 1, Slew: 1, Noise: 2}, {Limit: 1, Noise: 1, Slew: 1}} {
		s := chapter(0, 0)
		s.Plan = p
		checks(t, s, api.ErrNone)
	}
}

// P14.2: so many orders are not too many.
func TestManyOrders(t *testing.T) {
	for _, n := range []int{0, 1, 1999, 2000} {
		l, events, e := lab.Run(chapter(0, 0), make([]lab.Order, n))
		if l == nil || len(events) != n || e != api.OK {
			t.Error(n, l, len(events), e)
		}
		for _, v := range events {
			if !same(v, lab.Event{Error: api.ErrCommand}) {
				t.Error(v)
			}
		}
	}
	for _, n := range []int{2001, 3000} {
		if l, events, e := lab.Run(chapter(0, 0), make([]lab.Order, n)); l != nil || events != nil || e != api.ErrMany {
			t.Error(n, l, events, e)
		}
	}
}

// P14.3: what a lab is at first.
func TestFirst(t *testing.T) {
	r := rand.New(rand.NewSource(4))
	for range 200 {
		s := anySetup(r, 6)
		l := must[*lab.Lab](t)(lab.New(s))
		if n, e := l.Now(); n != 0 || e != api.OK {
			t.Error(n, e)
		}
		if rows, e := l.Rows(); len(rows) != 0 || e != api.OK {
			t.Error(rows, e)
		}
		if stamps, e := l.Stamps(); len(stamps) != 0 || e != api.OK {
			t.Error(stamps, e)
		}
		if members, e := l.Members(); len(members) != 0 || e != api.OK {
			t.Error(members, e)
		}
		c := s.World.Clocks[s.Master]
		shown := must[int](t)(world.Shown(s.World, s.Master, 0))
		if n, e := l.Shows(); n != shown-c.Phase || e != api.OK {
			t.Error(n, e)
		}
		if b, e := l.Bound(); b != span(-c.White, c.White) || e != api.OK {
			t.Error(b, e)
		}
	}
}
