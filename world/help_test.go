package world_test

import (
	"math/big"
	"math/rand"
	"slices"

	"meridian/world"
)

const last = 1000000

// room is the chamber of the chapter's examples.
func room() world.Chamber { return world.Chamber{Base: 20000, Swing: 1000, Period: 10} }

// one is a world of one clock, a tube if it has no kind.
func one(c world.Clock) world.World {
	if c.Kind == 0 {
		c.Kind = world.Tube
	}
	return world.World{Chambers: []world.Chamber{room()}, Clocks: []world.Clock{c}}
}

func event(what world.What, at, size int) world.Event {
	return world.Event{What: what, At: at, Size: size}
}

// copyOf is a world that shares nothing with w.
func copyOf(w world.World) world.World {
	w.Chambers = slices.Clone(w.Chambers)
	w.Clocks = slices.Clone(w.Clocks)
	for i := range w.Clocks {
		w.Clocks[i].Events = slices.Clone(w.Clocks[i].Events)
	}
	return w
}

// most has Rate, Drift, White and Walk of the chapter's table.
var most = map[world.Kind][4]int{
	world.Tube:     {10000000, 10000, 10000000, 100000},
	world.Maser:    {1000000, 100000, 100000, 10000},
	world.Fountain: {100000, 0, 1000000, 1000},
	world.Ion:      {100000, 0, 100000, 100},
	world.Quartz:   {10000000000, 10000000, 1000000000000, 1000000000},
}

// anyWorld is a valid world, in which limits themselves and small numbers are
// likely.
func anyWorld(r *rand.Rand) world.World {
	upTo := func(n int) int {
		switch r.Intn(4) {
		case 0:
			return n
		case 1:
			return r.Intn(min(n, 5) + 1)
		}
		return r.Intn(n + 1)
	}
	either := func(n int) int {
		if r.Intn(2) == 0 {
			return -upTo(n)
		}
		return upTo(n)
	}
	w := world.World{Seed: r.Uint64()}
	for range 1 + r.Intn(3) {
		w.Chambers = append(w.Chambers, world.Chamber{Base: upTo(1000000), Swing: upTo(100000), Period: 2 + upTo(last-2)})
	}
	for range 1 + r.Intn(3) {
		kind := world.Kind(1 + r.Intn(5))
		m := most[kind]
		c := world.Clock{Kind: kind, Phase: either(world.MaxStart), Rate: either(m[0]), Drift: either(m[1]), White: upTo(m[2]), Walk: upTo(m[3]), Heat: either(world.MaxHeat), Chamber: r.Intn(len(w.Chambers))}
		at := 0
		for range r.Intn(world.MaxEvents + 1) {
			at += 1 + r.Intn(100000)
			what := world.What(1 + r.Intn(4))
			size := 0
			if what == world.Step {
				size = either(world.MaxStep)
			} else if what == world.Kick {
				size = either(world.MaxKick)
			}
			c.Events = append(c.Events, event(what, at, size))
		}
		w.Clocks = append(w.Clocks, c)
	}
	return w
}

func whole(n int) *big.Int { return big.NewInt(int64(n)) }

func times(a, b int) *big.Int { return new(big.Int).Mul(whole(a), whole(b)) }

func floored(a *big.Int, b int) *big.Int {
	// Div of big is Euclidean: with a divisor above 0 it rounds down.
	return new(big.Int).Div(a, whole(b))
}

// slowTemperature follows the chapter's words for a chamber.
func slowTemperature(c world.Chamber, s int) int {
	p := s % c.Period
	q := min(p, c.Period-p)
	return c.Base + int(floored(times(2*c.Swing, q), c.Period).Int64())
}

// slowFixed is the phase of the chapter's words but for the walk, with numbers
// that cannot overflow.
func slowFixed(w world.World, k, s int) int {
	c := w.Clocks[k]
	drift := floored(new(big.Int).Mul(whole(c.Drift), times(s, s-1)), 2*86400)
	gain := new(big.Int).Add(times(c.Rate, s), drift)
	sum := whole(c.Phase)
	for _, e := range c.Events {
		if e.At > s {
			continue
		}
		if e.What == world.Kick {
			gain.Add(gain, times(e.Size, s-e.At))
		}
		if e.What == world.Step {
			sum.Add(sum, whole(e.Size))
		}
	}
	sum.Add(sum, floored(gain, 1000))
	room := w.Chambers[c.Chamber]
	sum.Add(sum, times(c.Heat, slowTemperature(room, s)-slowTemperature(room, 0)))
	return int(sum.Int64())
}

func slowPhase(w world.World, k, s int) int {
	n := slowFixed(w, k, s)
	for i := 1; i <= s/100; i++ {
		d, _ := world.Draw(w.Seed, 1, k, i, w.Clocks[k].Walk)
		n += d
	}
	return n
}

func slowRuns(w world.World, k, s int) bool {
	runs := true
	for _, e := range w.Clocks[k].Events {
		if e.At <= s && e.What == world.Stop {
			runs = false
		}
		if e.At <= s && e.What == world.Start {
			runs = true
		}
	}
	return runs
}

func slowShown(w world.World, k, s int) int {
	d, _ := world.Draw(w.Seed, 2, k, s, w.Clocks[k].White)
	return slowPhase(w, k, s) + d
}
