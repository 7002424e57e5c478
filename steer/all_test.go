package steer_test

import (
	"math"
	"math/rand"
	"slices"
	"testing"

	"meridian/api"
	"meridian/counter"
	"meridian/steer"
	"meridian/world"
)

// P6.5: from a safe state the error stays within Limit, whatever the
// disturbances.
func TestStays(t *testing.T) {
	r := rand.New(rand.NewSource(6))
	plans := large()
	for range 60 {
		plans = append(plans, anyPlan(r))
	}
	held := 0
	for _, p := range plans {
		set := safe(t, p)
		for _, s := range states(p) {
			if !set[s] || r.Intn(200) > 0 {
				continue
			}
			held++
			for _, noise := range [][]int{storm(r, p, 0), storm(r, p, 1), storm(r, p, -1)} {
				l, e := steer.Hold(p, s.Error, s.Rate, noise)
				if e != api.OK || len(l) != len(noise) {
					t.Fatal(p, s, e)
				}
				for _, x := range l {
					if !set[x] {
						t.Fatal(p, s, x)
					}
				}
			}
		}
	}
	if held < 50 {
		t.Error("too few states", held)
	}
}

// storm are disturbances: all as great as can be one way, or any.
func storm(r *rand.Rand, p steer.Plan, way int) []int {
	l := make([]int, 300)
	for i := range l {
		l[i] = way * p.Noise
		if way == 0 {
			l[i] = around(r, p.Noise)
		}
	}
	return l
}

// P5, P6.5: a keeper that measures well enough holds a realisation within its
// limit.
func TestKeeps(t *testing.T) {
	r := rand.New(rand.NewSource(7))
	p := steer.Plan{Limit: 20, Rate: 4, Slew: 1, Noise: 2}
	const unit = 1000
	w, e := steer.Widest(p)
	if e != api.OK || w < 10 {
		t.Fatal(w, e)
	}
	for range 50 {
		k := made(t, p, unit, 0)
		err := around(r, w) * unit
		for range 500 {
			// What is measured is off by less than 3/4 of a unit, by a quarter and
			// by rounding, both before and after a step: of the plan's noise of
			// two units half a unit is left for the disturbance.
			wide := r.Intn(unit / 4)
			middle := err + around(r, unit/4-1)
			q := drive(t, k, middle-wide, middle+wide)
			err += q*unit + around(r, unit/2)
			if err > p.Limit*unit || err < -p.Limit*unit {
				t.Fatal(err)
			}
		}
	}
}

// P6.5: from a state that is not safe no rates avoid an error beyond Limit, in
// large plans, too.
func TestLeaves(t *testing.T) {
	r := rand.New(rand.NewSource(8))
	forced := 0
	for _, p := range append(large(), anyPlan(r), anyPlan(r), anyPlan(r), anyPlan(r)) {
		l := chart(t, p)
		for i, s := range states(p) {
			if l[i] < 1000 || r.Intn(100) > 0 {
				continue
			}
			forced++
			forceAnyhow(t, r, p, s, l[i]-1000)
		}
	}
	if forced < 15 {
		t.Error("too few states", forced)
	}
}

// forceAnyhow chooses rates against the disturbances, which know only the rates
// before, and looks whether the error is beyond Limit in time.
func forceAnyhow(t *testing.T, r *rand.Rand, p steer.Plan, from steer.Entry, escape int) {
	t.Helper()
	var rates []int
	s := from
	for {
		l := choices(p, s)
		rates = append(rates, l[r.Intn(len(l))])
		s.Rate = rates[len(rates)-1]
		got, e := steer.Force(p, from.Error, from.Rate, rates)
		if e == api.ErrTime && len(rates) < escape {
			continue
		}
		if e != api.OK || len(got) != len(rates) {
			t.Fatal(p, from, rates, escape, got, e)
		}
		end := from.Error
		for i, d := range got {
			end += rates[i] + d
			if d < -p.Noise || d > p.Noise || (end < -p.Limit || end > p.Limit) != (i == len(got)-1) {
				t.Fatal(p, from, rates, got)
			}
		}
		return
	}
}

// P6.5: with a greater Limit, Rate or Slew, or less Noise, no state is lost; and
// a state is safe just if the opposite one is.
func TestOrder(t *testing.T) {
	for p := range small {
		set := safe(t, p)
		others := []steer.Plan{p, p, p, p}
		others[0].Limit++
		others[1].Rate++
		others[2].Slew++
		others[3].Noise = max(0, p.Noise-1)
		for _, other := range others {
			wider := safe(t, other)
			for s := range set {
				if !wider[s] {
					t.Fatal(p, other, s)
				}
			}
		}
		for s := range set {
			if !set[steer.Entry{Error: -s.Error, Rate: -s.Rate}] {
				t.Fatal(p, s)
			}
		}
	}
}

// P6.5: the chart of a plan is a law of wider ones, too, which is proved there
// and meant for no other state than the safe ones.
func TestProveOtherPlans(t *testing.T) {
	for p := range small {
		wide := p
		wide.Limit++
		wide.Slew++
		law := slices.Repeat([]int{steer.Escape}, len(states(wide)))
		for i, s := range states(p) {
			at, _ := steer.Index(wide, s.Error, s.Rate)
			law[at] = chart(t, p)[i]
		}
		if e := steer.Prove(wide, law); e != api.OK {
			t.Fatal(p, e)
		}
	}
}

// R4: no argument is changed, and results share no memory.
func TestMemory(t *testing.T) {
	p := steer.Plan{Limit: 2, Rate: 1, Slew: 2, Noise: 1}
	l := chart(t, p)
	k := made(t, p, 1, 0)
	l[0] = 77
	if again := chart(t, p); again[0] != 1 {
		t.Error("charts share memory", again)
	}
	if q := drive(t, k, -2, -2); q != 1 {
		t.Error("a keeper shares its chart", q)
	}
	drive(t, k, 2, 2)
	log := logOf(t, k)
	log[0].Error = 77
	_ = append(log[:1], steer.Entry{Error: 78})
	drive(t, k, 0, 0)
	if now := logOf(t, k); !slices.Equal(now, []steer.Entry{{Error: -2, Rate: 1}, {Error: 2, Rate: -1}, {Error: 0, Rate: 0}}) {
		t.Error("a log shares memory with its keeper", now)
	}
	law := chart(t, p)
	steer.Prove(p, law)
	noise, rates := []int{1, -1, 0}, []int{0, -1, 0}
	steer.Hold(p, 0, 0, noise)
	disturbances, _ := steer.Force(steer.Plan{Limit: 2, Rate: 1, Slew: 1, Noise: 2}, 0, 0, rates)
	disturbances[0] = 77
	if !slices.Equal(law, chart(t, p)) || !slices.Equal(noise, []int{1, -1, 0}) || !slices.Equal(rates, []int{0, -1, 0}) {
		t.Error("an argument is changed", law, noise, rates)
	}
}

// P9: nothing panics or goes on for ever, whatever the arguments.
func TestAnyArguments(t *testing.T) {
	edges := []int{math.MinInt, math.MinInt + 1, -steer.MaxUnit, -1001, -41, -40, -13, -12, -1, 0, 1, 2, 12, 13, 24, 25, 40, 41, 1000, 1001, steer.MaxUnit, api.MaxPhase, math.MaxInt}
	r := rand.New(rand.NewSource(9))
	edge := func() int { return edges[r.Intn(len(edges))] }
	some := func() []int {
		l := make([]int, r.Intn(5))
		for i := range l {
			l[i] = edge()
		}
		return l
	}
	w := world.World{Chambers: []world.Chamber{{Period: 2}}, Clocks: []world.Clock{{Kind: world.Maser}, {Kind: world.Maser}}}
	c := counter.Counter{Factor: 1, Grid: 2, Range: 4000, Dead: 1}
	for range 3000 {
		p := steer.Plan{Limit: edge(), Rate: edge(), Slew: edge(), Noise: edge()}
		if r.Intn(2) == 0 {
			p = steer.Plan{Limit: 1 + r.Intn(5), Rate: r.Intn(4), Slew: 1 + r.Intn(4), Noise: r.Intn(4)}
		}
		e, q := edge(), edge()
		steer.Check(p)
		steer.Index(p, e, q)
		steer.Chart(p)
		steer.Prove(p, some())
		if steer.Check(p) == api.OK {
			law := chart(t, p)
			law[r.Intn(len(law))] = edge()
			steer.Prove(p, law)
		}
		steer.Hold(p, e, q, some())
		steer.Hold(p, 0, 0, some())
		steer.Force(p, e, q, some())
		steer.Force(p, 0, 0, some())
		steer.Widest(p)
		k, _ := steer.NewKeeper(p, edge(), edge())
		k.Drive(api.Span{Lo: edge(), Hi: edge()})
		k, _ = steer.NewKeeper(p, 1, 0)
		for range 5 {
			k.Drive(api.Span{Lo: edge(), Hi: edge()})
			k.Log()
		}
		steer.Lock(c, w, edge(), edge(), edge(), edge(), edge(), edge())
		steer.Lock(c, w, 0, 1, 0, edge(), r.Intn(3), edge())
		steer.Lock(c, world.World{}, 0, 1, edge(), 1, edge(), 5)
	}
}
