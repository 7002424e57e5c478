package steer_test

import (
	"math/rand"
	"testing"

	"meridian/api"
	"meridian/steer"
)

// small yields plans with few states, of which some keep all of them safe, some
// none.
func small(yield func(p steer.Plan) bool) {
	for limit := 1; limit <= 6; limit++ {
		for rate := range 5 {
			for slew := 1; slew <= 5; slew++ {
				for noise := range 5 {
					if !yield(steer.Plan{Limit: limit, Rate: rate, Slew: slew, Noise: noise}) {
						return
					}
				}
			}
		}
	}
}

// large are plans at the limits, and near them.
func large() []steer.Plan {
	return []steer.Plan{
		{Limit: 40, Rate: 12, Slew: 24, Noise: 12}, {Limit: 40, Rate: 12, Slew: 1, Noise: 0}, {Limit: 40, Rate: 12, Slew: 24}, {Limit: 40, Rate: 12, Slew: 3, Noise: 5},
		{Limit: 40, Rate: 11, Slew: 24, Noise: 12}, {Limit: 40, Rate: 0, Slew: 1, Noise: 1}, {Limit: 39, Rate: 7, Slew: 1, Noise: 2}, {Limit: 1, Rate: 12, Slew: 24, Noise: 12},
	}
}

func anyPlan(r *rand.Rand) steer.Plan {
	rate := r.Intn(13)
	return steer.Plan{Limit: 1 + r.Intn(40), Rate: rate, Slew: 1 + r.Intn(24), Noise: r.Intn(1 + r.Intn(13))}
}

// states are all states, in the order of a chart.
func states(p steer.Plan) []steer.Entry {
	var l []steer.Entry
	for e := -p.Limit; e <= p.Limit; e++ {
		for r := -p.Rate; r <= p.Rate; r++ {
			l = append(l, steer.Entry{Error: e, Rate: r})
		}
	}
	return l
}

// choices are the new rates that a state allows, from the least one on.
func choices(p steer.Plan, s steer.Entry) []int {
	var l []int
	for q := -p.Rate; q <= p.Rate; q++ {
		if q-s.Rate <= p.Slew && s.Rate-q <= p.Slew {
			l = append(l, q)
		}
	}
	return l
}

// to is where a new rate and a disturbance lead.
func to(s steer.Entry, q, d int) steer.Entry { return steer.Entry{Error: s.Error + q + d, Rate: q} }

// leads reports whether each disturbance leads to a state of a set.
func leads(p steer.Plan, set map[steer.Entry]bool, s steer.Entry, q int) bool {
	for d := -p.Noise; d <= p.Noise; d++ {
		if !set[to(s, q, d)] {
			return false
		}
	}
	return true
}

// slowSafe takes one state after the other away that cannot be held, until there
// is none.
func slowSafe(p steer.Plan) map[steer.Entry]bool {
	set := map[steer.Entry]bool{}
	for _, s := range states(p) {
		set[s] = true
	}
	for again := true; again; {
		again = false
		for _, s := range states(p) {
			held := false
			for _, q := range choices(p, s) {
				held = held || leads(p, set, s, q)
			}
			if set[s] && !held {
				delete(set, s)
				again = true
			}
		}
	}
	return set
}

// game is the game of the rates against the disturbances, played by the
// chapter's words.
type game struct {
	plan   steer.Plan
	forced map[turn]bool
}

type turn struct {
	s     steer.Entry
	steps int
}

func newGame(p steer.Plan) game { return game{p, map[turn]bool{}} }

// forces reports whether disturbances can lead to an error beyond Limit within
// some steps, whatever the new rates are.
func (g game) forces(s steer.Entry, steps int) bool {
	if s.Error < -g.plan.Limit || s.Error > g.plan.Limit {
		return true
	}
	if steps == 0 {
		return false
	}
	at := turn{s, steps}
	if is, known := g.forced[at]; known {
		return is
	}
	is := true
	for _, q := range choices(g.plan, s) {
		some := false
		for d := -g.plan.Noise; d <= g.plan.Noise; d++ {
			some = some || g.forces(to(s, q, d), steps-1)
		}
		is = is && some
	}
	g.forced[at] = is
	return is
}

// escape is that of a state which is not in the safe set; of one beyond Limit
// it is 0.
func (g game) escape(s steer.Entry) int {
	n := 0
	for !g.forces(s, n) {
		n++
	}
	return n
}

// slowChart follows the chapter's words.
func slowChart(p steer.Plan) []int {
	safe, g := slowSafe(p), newGame(p)
	var l []int
	for _, s := range states(p) {
		if !safe[s] {
			l = append(l, 1000+g.escape(s))
			continue
		}
		best, found := 0, false
		for _, q := range choices(p, s) {
			if leads(p, safe, s, q) && (!found || max(q, -q) < max(best, -best)) {
				best, found = q, true
			}
		}
		l = append(l, best)
	}
	return l
}

func chart(t *testing.T, p steer.Plan) []int {
	t.Helper()
	l, e := steer.Chart(p)
	if e != api.OK || len(l) != len(states(p)) {
		t.Fatal(p, len(l), e)
	}
	return l
}

// safe is the safe set, as the chart says.
func safe(t *testing.T, p steer.Plan) map[steer.Entry]bool {
	t.Helper()
	l := chart(t, p)
	set := map[steer.Entry]bool{}
	for i, s := range states(p) {
		if l[i] < steer.Escape {
			set[s] = true
		}
	}
	return set
}

// around is a number of up to size, below or above 0.
func around(r *rand.Rand, size int) int { return r.Intn(2*size+1) - size }
