package lab

import (
	"slices"

	"meridian/api"
	"meridian/calendar"
	"meridian/counter"
	"meridian/number"
	"meridian/scale"
	"meridian/stamp"
	"meridian/steer"
	"meridian/world"
)

// Check returns the error of a setup.
func Check(s Setup) api.Errno {
	// Each one may rely on those before it.
	checks := [...]func() api.Errno{
		func() api.Errno { return world.Check(s.World) },
		func() api.Errno { return unless(number.IsIndex(s.Master, len(s.World.Clocks)), api.ErrClock) },
		func() api.Errno { return counter.Check(s.Counter) },
		func() api.Errno {
			return unless(number.Within(s.Every, 1, MaxEvery) && s.Every%s.Counter.Dead == 0, api.ErrTime)
		},
		func() api.Errno {
			_, e := scale.New(s.Scale, s.phase())
			return e
		},
		func() api.Errno {
			_, e := steer.NewKeeper(s.Plan, s.Unit, 0)
			return e
		},
		func() api.Errno {
			_, e := calendar.Dates(s.Table, s.Start)
			return e
		},
	}
	for _, check := range checks {
		if e := check(); e != api.OK {
			return e
		}
	}
	return api.OK
}

// unless is OK if something holds, otherwise the error e.
func unless(holds bool, e api.Errno) api.Errno {
	if holds {
		return api.OK
	}
	return e
}

// phase is the Phase of the master.
func (s Setup) phase() int { return s.World.Clocks[s.Master].Phase }

// begin is what a lab has at first. The setup has no error.
func begin(s Setup) work {
	w := work{Setup: s.copied(), known: known(s.World), chain: stamp.New(s.Key)}
	w.paper, _ = scale.New(s.Scale, s.phase())
	w.keeper, _ = steer.NewKeeper(s.Plan, s.Unit, 0)
	w.stepped = -s.phase()
	return w
}

// copied is a setup that shares no memory with s.
func (s Setup) copied() Setup {
	s.World.Chambers = slices.Clone(s.World.Chambers)
	s.World.Clocks = slices.Clone(s.World.Clocks)
	for i, c := range s.World.Clocks {
		s.World.Clocks[i].Events = slices.Clone(c.Events)
	}
	s.Table.Leaps = slices.Clone(s.Table.Leaps)
	return s
}

// known is what is known of a world: it has no events. It shares no memory with w.
func known(w world.World) world.World {
	w.Chambers = slices.Clone(w.Chambers)
	w.Clocks = slices.Clone(w.Clocks)
	for i := range w.Clocks {
		w.Clocks[i].Events = nil
	}
	return w
}
