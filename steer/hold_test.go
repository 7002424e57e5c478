package steer_test

import (
	"math"
	"math/rand"
	"slices"
	"testing"

	"meridian/api"
	"meridian/steer"
)

// P6.2: each state follows from the one before by the chart and a disturbance.
func TestHold(t *testing.T) {
	r := rand.New(rand.NewSource(3))
	held := 0
	for p := range small {
		l := chart(t, p)
		for i, s := range states(p) {
			noise := make([]int, r.Intn(6))
			for k := range noise {
				noise[k] = around(r, p.Noise)
			}
			got, e := steer.Hold(p, s.Error, s.Rate, noise)
			if l[i] >= 1000 {
				if e != api.ErrState || len(got) != 0 {
					t.Fatal(p, s, got, e)
				}
				continue
			}
			var want []steer.Entry
			for _, d := range noise {
				at, _ := steer.Index(p, s.Error, s.Rate)
				s = to(s, l[at], d)
				want = append(want, s)
			}
			if e != api.OK || !slices.Equal(got, want) {
				t.Fatal(p, noise, got, want, e)
			}
			held++
		}
	}
	if held < 5000 {
		t.Error("too few states", held)
	}
}

// P6.2: the errors of Hold in their order, and its limits.
func TestHoldErrors(t *testing.T) {
	p := steer.Plan{Limit: 2, Rate: 1, Slew: 1, Noise: 1} // (2, 1) is not safe
	long, wrong := make([]int, steer.MaxLog+1), []int{0, 2}
	long[0] = 2
	for i, c := range []struct {
		p     steer.Plan
		e, r  int
		noise []int
		want  api.Errno
	}{
		{steer.Plan{}, 3, 2, long, api.ErrSteer},
		{p, 3, 0, long, api.ErrRange}, {p, -3, 0, long, api.ErrRange}, {p, 0, 2, nil, api.ErrRange}, {p, 0, -2, nil, api.ErrRange}, {p, math.MinInt, math.MaxInt, nil, api.ErrRange},
		{p, 2, 1, long, api.ErrMany}, {p, 0, 0, make([]int, steer.MaxLog+1), api.ErrMany},
		{p, 2, 1, wrong, api.ErrRange}, {p, 0, 0, []int{-2}, api.ErrRange}, {p, 0, 0, []int{math.MaxInt}, api.ErrRange}, {p, 0, 0, []int{0, 1, math.MinInt}, api.ErrRange},
		{p, 2, 1, []int{1}, api.ErrState}, {p, -2, -1, nil, api.ErrState},
		{p, 2, 0, nil, api.OK}, {p, -2, 1, []int{}, api.OK}, {p, 0, 0, make([]int, steer.MaxLog), api.OK},
	} {
		l, e := steer.Hold(c.p, c.e, c.r, c.noise)
		if e != c.want || e != api.OK && len(l) != 0 || e == api.OK && len(l) != len(c.noise) {
			t.Error(i, len(l), e)
		}
	}
}

// slowWorst follows the chapter's words: where a disturbance leads beyond Limit
// the escape is 0.
func slowWorst(p steer.Plan, g game, set map[steer.Entry]bool, s steer.Entry, q int) int {
	worst, least := 0, math.MaxInt
	for d := p.Noise; d >= -p.Noise; d-- {
		next := to(s, q, d)
		if !set[next] && g.escape(next) <= least {
			worst, least = d, g.escape(next)
		}
	}
	return worst
}

// P6.2: new rates that are chosen at random are answered as the chapter says.
func TestForce(t *testing.T) {
	r := rand.New(rand.NewSource(4))
	tried := 0
	for p := range small {
		set, g := slowSafe(p), newGame(p)
		for _, from := range states(p) {
			if set[from] {
				continue
			}
			tried++
			var rates, want []int
			for s := from; s.Error >= -p.Limit && s.Error <= p.Limit; {
				q := choices(p, s)[r.Intn(len(choices(p, s)))]
				d := slowWorst(p, g, set, s, q)
				rates, want = append(rates, q), append(want, d)
				s = to(s, q, d)
			}
			if got, e := steer.Force(p, from.Error, from.Rate, rates); e != api.OK || !slices.Equal(got, want) {
				t.Fatal(p, from, rates, got, want, e)
			}
			if got, e := steer.Force(p, from.Error, from.Rate, rates[:len(rates)-1]); e != api.ErrTime || len(got) != 0 {
				t.Fatal(p, from, rates, got, e)
			}
			// What comes after the end is not looked at.
			if got, e := steer.Force(p, from.Error, from.Rate, append(rates, 99, math.MinInt)); e != api.OK || !slices.Equal(got, want) {
				t.Fatal(p, from, rates, got, want, e)
			}
		}
	}
	if tried < 5000 {
		t.Error("too few states", tried)
	}
}

// P6.2, P6.5: whatever the rates are, there is an end after as many of them as
// the escape at most; and for some rates not before.
func TestForceAllRates(t *testing.T) {
	longest := 0
	for p := range small {
		l := chart(t, p)
		if p.Rate > 2 || slices.Max(l) > 1006 {
			continue
		}
		for i, s := range states(p) {
			if l[i] < 1000 {
				continue
			}
			if n := forceAll(t, p, s, s, nil, l[i]-1000); n != l[i]-1000 {
				t.Fatal(p, s, n, l[i])
			}
			longest = max(longest, l[i]-1000)
		}
	}
	if longest < 4 {
		t.Error("no state has a great escape", longest)
	}
}

// forceAll tries all rates that go on from a state, which the rates so far have
// led to. It returns after how many of them there is an end at the latest.
func forceAll(t *testing.T, p steer.Plan, from, s steer.Entry, rates []int, left int) int {
	t.Helper()
	if left == 0 {
		t.Fatal("no end", p, from, rates)
	}
	most := 0
	for _, q := range choices(p, s) {
		now := append(slices.Clone(rates), q)
		got, e := steer.Force(p, from.Error, from.Rate, now)
		if e == api.OK {
			most = max(most, len(got))
			continue
		}
		if e != api.ErrTime {
			t.Fatal(p, from, now, e)
		}
		set, g := slowSafe(p), newGame(p)
		most = max(most, forceAll(t, p, from, to(s, q, slowWorst(p, g, set, s, q)), now, left-1))
	}
	return most
}

// P6.2: the errors of Force in their order.
func TestForceErrors(t *testing.T) {
	none := steer.Plan{Limit: 2, Rate: 1, Slew: 1, Noise: 2} // no state is safe
	far := steer.Plan{Limit: 3, Rate: 1, Slew: 1, Noise: 2}  // no state, either
	some := steer.Plan{Limit: 2, Rate: 1, Slew: 1, Noise: 1} // (2, 1) and (-2, -1) are not
	for i, c := range []struct {
		p     steer.Plan
		e, r  int
		rates []int
		want  api.Errno
	}{
		{steer.Plan{Limit: 1}, 9, 9, []int{9}, api.ErrSteer},
		{none, 3, 0, []int{9}, api.ErrRange}, {none, -3, 0, nil, api.ErrRange}, {none, 0, 2, nil, api.ErrRange}, {none, math.MaxInt, math.MinInt, nil, api.ErrRange},
		{some, 2, 0, []int{9}, api.ErrState}, {some, 0, 0, nil, api.ErrState},
		{none, 0, 0, []int{2}, api.ErrArg}, {none, 0, 0, []int{-2}, api.ErrArg}, {none, 0, 1, []int{-1}, api.ErrArg}, {none, 0, -1, []int{1}, api.ErrArg},
		{none, 0, 0, []int{0, 2}, api.ErrArg}, {far, 0, 0, []int{1, -1, 0}, api.ErrArg}, {none, 0, 0, []int{math.MinInt}, api.ErrArg}, {none, 0, 0, []int{math.MaxInt, 0}, api.ErrArg},
		{none, 0, 0, nil, api.ErrTime}, {none, 0, 0, []int{0}, api.ErrTime}, {some, 2, 1, nil, api.ErrTime},
		{none, 2, 1, []int{0}, api.OK}, {some, 2, 1, []int{1, 77}, api.OK}, {some, -2, -1, []int{0}, api.OK},
	} {
		if l, e := steer.Force(c.p, c.e, c.r, c.rates); e != c.want || e != api.OK && len(l) != 0 || e == api.OK && len(l) != 1 {
			t.Error(i, l, e)
		}
	}
	if l, e := steer.Force(some, -2, -1, []int{0}); !slices.Equal(l, []int{-1}) || e != api.OK {
		t.Error(l, e)
	}
	if l, e := steer.Force(some, 2, 1, []int{0}); !slices.Equal(l, []int{1}) || e != api.OK {
		t.Error(l, e)
	}
	// Both disturbances beyond Limit, and states in between that are not: the
	// least one of those beyond Limit.
	if l, e := steer.Force(steer.Plan{Limit: 1, Rate: 1, Slew: 1, Noise: 12}, 0, 0, []int{1}); !slices.Equal(l, []int{-12}) || e != api.OK {
		t.Error(l, e)
	}
}

// P6.2: Widest against the safe set.
func TestWidest(t *testing.T) {
	seen := map[int]bool{}
	for p := range small {
		set := slowSafe(p)
		want := -1
		for want < p.Limit && set[steer.Entry{Error: want + 1}] && set[steer.Entry{Error: -want - 1}] {
			want++
		}
		w, e := steer.Widest(p)
		if want >= 0 && (w != want || e != api.OK) || want < 0 && (w != 0 || e != api.ErrNone) {
			t.Fatal(p, w, want, e)
		}
		seen[want-p.Limit] = true
	}
	if !seen[0] || !seen[-1] || !seen[-2] || len(seen) < 5 {
		t.Error("too few widths", seen)
	}
	for i, c := range []struct {
		p    steer.Plan
		want int
		e    api.Errno
	}{
		{steer.Plan{Limit: 2, Rate: 1, Slew: 2, Noise: 1}, 2, api.OK}, {steer.Plan{Limit: 2, Rate: 1, Slew: 1, Noise: 2}, 0, api.ErrNone},
		{steer.Plan{Limit: 40, Slew: 1}, 40, api.OK}, {steer.Plan{Limit: 40, Slew: 1, Noise: 1}, 0, api.ErrNone}, {steer.Plan{Limit: 2, Rate: 1, Slew: 0}, 0, api.ErrSteer},
	} {
		if w, e := steer.Widest(c.p); w != c.want || e != c.e {
			t.Error(i, w, e)
		}
	}
}
