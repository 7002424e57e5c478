package steer_test

import (
	"math"
	"math/rand"
	"slices"
	"testing"

	"meridian/api"
	"meridian/steer"
)

func TestConstants(t *testing.T) {
	for i, n := range []int{steer.MaxLimit - 40, steer.MaxRate - 12, steer.Escape - 1000, steer.MaxLog - 5000, steer.MaxUnit - 1000000000000} {
		if n != 0 {
			t.Error(i, n)
		}
	}
}

// P6.1: the limits of each number of a plan, at them and beyond them.
func TestCheck(t *testing.T) {
	for i, c := range []struct {
		set       func(p *steer.Plan, n int)
		good, bad []int
	}{
		{func(p *steer.Plan, n int) { p.Limit = n }, []int{1, 2, 40}, []int{0, -1, 41}},
		{func(p *steer.Plan, n int) { p.Rate = n }, []int{0, 1, 12}, []int{-1, 13}},
		{func(p *steer.Plan, n int) { p.Slew = n }, []int{1, 2, 24}, []int{0, -1, 25}},
		{func(p *steer.Plan, n int) { p.Noise = n }, []int{0, 1, 12}, []int{-1, 13}},
	} {
		for _, n := range c.good {
			p := steer.Plan{Limit: 2, Rate: 1, Slew: 2, Noise: 1}
			c.set(&p, n)
			if e := steer.Check(p); e != api.OK {
				t.Error(i, n, e)
			}
		}
		for _, n := range append(c.bad, math.MinInt, math.MaxInt) {
			p := steer.Plan{Limit: 2, Rate: 1, Slew: 2, Noise: 1}
			c.set(&p, n)
			if e := steer.Check(p); e != api.ErrSteer {
				t.Error(i, n, e)
			}
		}
	}
}

// P6.1: states stand by increasing error, and then by increasing rate.
func TestIndex(t *testing.T) {
	for _, p := range append(large(), steer.Plan{Limit: 2, Rate: 1, Slew: 2}, steer.Plan{Limit: 3, Slew: 1}) {
		for i, s := range states(p) {
			if n, e := steer.Index(p, s.Error, s.Rate); n != i || e != api.OK {
				t.Fatal(p, s, i, n, e)
			}
		}
		for _, s := range []steer.Entry{{Error: p.Limit + 1}, {Error: -p.Limit - 1}, {Rate: p.Rate + 1}, {Rate: -p.Rate - 1}, {Error: math.MaxInt}, {Error: math.MinInt}, {Rate: math.MaxInt}, {Rate: math.MinInt}} {
			if n, e := steer.Index(p, s.Error, s.Rate); n != 0 || e != api.ErrRange {
				t.Error(p, s, n, e)
			}
		}
	}
	if n, e := steer.Index(steer.Plan{Limit: 41, Slew: 1}, 99, 99); n != 0 || e != api.ErrSteer {
		t.Error(n, e)
	}
}

// P6.1: the chapter's examples.
func TestChartExamples(t *testing.T) {
	for i, c := range []struct {
		p    steer.Plan
		want []int
	}{
		{steer.Plan{Limit: 2, Rate: 1, Slew: 2}, make([]int, 15)},
		{steer.Plan{Limit: 2, Rate: 1, Slew: 2, Noise: 1}, []int{1, 1, 1, 0, 0, 0, 0, 0, 0, 0, 0, 0, -1, -1, -1}},
		{steer.Plan{Limit: 2, Rate: 1, Slew: 1, Noise: 1}, []int{1001, 1, 1, 0, 0, 0, 0, 0, 0, 0, 0, 0, -1, -1, 1001}},
		{steer.Plan{Limit: 2, Rate: 1, Slew: 1, Noise: 2}, []int{1001, 1001, 1001, 1001, 1002, 1002, 1002, 1002, 1002, 1002, 1002, 1001, 1001, 1001, 1001}},
	} {
		if l := chart(t, c.p); !slices.Equal(l, c.want) {
			t.Error(i, l, c.want)
		}
	}
}

// P6.1: charts against the chapter's words. (Which one of two rates that are as
// near to 0 is taken cannot be seen: no plan has a state in which both hold, but
// not the rate 0.)
func TestChart(t *testing.T) {
	someSafe, tall := 0, 0
	for p := range small {
		l := chart(t, p)
		if want := slowChart(p); !slices.Equal(l, want) {
			t.Fatal(p, l, want)
		}
		if m := slices.Max(l); m >= 1003 && slices.Min(l) < 1000 {
			someSafe++
		} else if m >= 1005 {
			tall++
		}
	}
	if someSafe < 10 || tall < 5 {
		t.Error("too few plans that matter", someSafe, tall)
	}
}

// P6.1: so at the limits, too.
func TestLargeCharts(t *testing.T) {
	for _, p := range large() {
		if l, want := chart(t, p), slowChart(p); !slices.Equal(l, want) {
			t.Error(p)
		}
	}
	r := rand.New(rand.NewSource(1))
	for range 20 {
		p := anyPlan(r)
		if l, want := chart(t, p), slowChart(p); !slices.Equal(l, want) {
			t.Error(p)
		}
	}
}

// slowProved follows the chapter's words.
func slowProved(p steer.Plan, law []int) bool {
	meant := map[steer.Entry]bool{}
	for i, s := range states(p) {
		if law[i] < 1000 {
			meant[s] = true
		}
	}
	for i, s := range states(p) {
		if meant[s] && (!slices.Contains(choices(p, s), law[i]) || !leads(p, meant, s, law[i])) {
			return false
		}
	}
	return true
}

// P6.1, P6.5: all laws of the smallest plans; those that are proved are meant
// for safe states alone, and the states of all of them are the safe set.
func TestProveAllLaws(t *testing.T) {
	for _, p := range []steer.Plan{{Limit: 1, Rate: 1, Slew: 1}, {Limit: 1, Rate: 1, Slew: 2}, {Limit: 1, Rate: 1, Slew: 2, Noise: 1}, {Limit: 4, Slew: 1}, {Limit: 3, Slew: 1, Noise: 1}} {
		set := safe(t, p)
		seen := map[steer.Entry]bool{}
		law := slices.Repeat([]int{-p.Rate}, len(states(p)))
		for more := true; more; more = nextLaw(p, law) {
			e := steer.Prove(p, law)
			if e == api.OK != slowProved(p, law) || e != api.OK && e != api.ErrFalse {
				t.Fatal(p, law, e)
			}
			if e != api.OK {
				continue
			}
			for i, s := range states(p) {
				if law[i] < 1000 {
					seen[s] = true
				}
			}
		}
		if len(seen) != len(set) {
			t.Error(p, seen, set)
		}
		for s := range seen {
			if !set[s] {
				t.Error(p, s)
			}
		}
	}
}

// nextLaw counts on: each number goes from -Rate to Rate, and then to 1000.
func nextLaw(p steer.Plan, law []int) bool {
	for i, q := range law {
		switch q {
		case 1000:
			law[i] = -p.Rate
			continue
		case p.Rate:
			law[i] = 1000
		default:
			law[i]++
		}
		return true
	}
	return false
}

// P6.1: a chart is proved, but not if a safe state has another number that is
// wrong, or one that is not safe is meant.
func TestProveChanged(t *testing.T) {
	r := rand.New(rand.NewSource(2))
	proved := 0
	for p := range small {
		l := chart(t, p)
		if e := steer.Prove(p, l); e != api.OK {
			t.Fatal(p, l, e)
		}
		for range 20 {
			law := slices.Clone(l)
			for range 1 + r.Intn(3) {
				law[r.Intn(len(law))] = []int{around(r, p.Rate), around(r, p.Rate+1), 1000 + r.Intn(3)}[r.Intn(3)]
			}
			e := steer.Prove(p, law)
			if e == api.OK != slowProved(p, law) || e != api.OK && e != api.ErrFalse {
				t.Fatal(p, law, e)
			}
			if e == api.OK {
				proved++
			}
		}
	}
	if proved < 1000 {
		t.Error("too few laws are proved", proved)
	}
}

// P6.1: what numbers of a law mean.
func TestProveNumbers(t *testing.T) {
	p := steer.Plan{Limit: 2, Rate: 1, Slew: 2, Noise: 1}
	for _, n := range []int{1000, 1001, 5000, math.MaxInt} {
		if e := steer.Prove(p, slices.Repeat([]int{n}, 15)); e != api.OK {
			t.Error("a law that is meant for no state", n, e)
		}
	}
	for _, n := range []int{999, 500, 2, -2, -1000, math.MinInt} {
		law := chart(t, p)
		law[7] = n
		if e := steer.Prove(p, law); e != api.ErrFalse {
			t.Error(n, e)
		}
	}
	// Rate and Slew limit the new rate, even where it would keep the error.
	wide := steer.Plan{Limit: 9, Rate: 3, Slew: 2}
	law := chart(t, wide)
	i, _ := steer.Index(wide, 0, 3)
	for n, want := range map[int]api.Errno{0: api.ErrFalse, 1: api.OK, 2: api.OK, 3: api.OK, 4: api.ErrFalse} {
		law[i] = n
		if e := steer.Prove(wide, law); e != want {
			t.Error(n, e)
		}
	}
}

// P6.1: the errors of Chart and Prove, in their order.
func TestChartErrors(t *testing.T) {
	bad := steer.Plan{Limit: 2, Rate: 1, Slew: 0, Noise: 1}
	if l, e := steer.Chart(bad); len(l) != 0 || e != api.ErrSteer {
		t.Error(l, e)
	}
	if e := steer.Prove(bad, nil); e != api.ErrSteer {
		t.Error(e)
	}
	p := steer.Plan{Limit: 2, Rate: 1, Slew: 1, Noise: 1}
	for _, n := range []int{0, 1, 14, 16, 2025} {
		if e := steer.Prove(p, make([]int, n)); e != api.ErrArg {
			t.Error(n, e)
		}
	}
	if e := steer.Prove(p, make([]int, 15)); e != api.ErrFalse {
		t.Error(e)
	}
}
