package world_test

import (
	"math/rand"
	"testing"

	"meridian/api"
	"meridian/world"
)

// P1.3: the reach and the growth of many worlds are those of the words.
func TestReachAndGrowth(t *testing.T) {
	r := rand.New(rand.NewSource(4))
	for range 300 {
		w := anyWorld(r)
		k := r.Intn(len(w.Clocks))
		c := w.Clocks[k]
		from := r.Intn(last + 1)
		for _, to := range []int{from, from + r.Intn(last+1-from), last} {
			far := c.Walk*(to/100) + c.White
			n := slowFixed(w, k, to)
			if x, e := world.Reach(w, k, to); x != (api.Span{Lo: n - far, Hi: n + far}) || e != api.OK {
				t.Fatal(w, k, to, x, e)
			}
			far = c.Walk * (to/100 - from/100)
			n -= slowFixed(w, k, from)
			if x, e := world.Growth(w, k, from, to); x != (api.Span{Lo: n - far, Hi: n + far}) || e != api.OK {
				t.Fatal(w, k, from, to, x, e)
			}
		}
	}
}

// P1.3: the walk is drawn at full hundreds of seconds.
func TestGrowthEdges(t *testing.T) {
	w := one(world.Clock{Walk: 1000, White: 500, Rate: 7000})
	for _, c := range [][4]int{
		{150, 420, 7*270 - 3000, 7*270 + 3000}, {0, 99, 693, 693}, {99, 100, -993, 1007}, {100, 100, 0, 0}, {100, 199, 693, 693}, {0, last, 7*last - 10000000, 7*last + 10000000},
	} {
		if x, e := world.Growth(w, 0, c[0], c[1]); x != (api.Span{Lo: c[2], Hi: c[3]}) || e != api.OK {
			t.Error(c, x, e)
		}
	}
	for s, want := range map[int]api.Span{0: {Lo: -500, Hi: 500}, 99: {Lo: 193, Hi: 1193}, 100: {Lo: -800, Hi: 2200}} {
		if x, e := world.Reach(w, 0, s); x != want || e != api.OK {
			t.Error(s, x, e)
		}
	}
}

// P1.3: it does not matter whether a clock runs; both ends are met by seeds.
func TestReachIsMet(t *testing.T) {
	w := one(world.Clock{Phase: 10, Walk: 1, White: 1})
	least, most := 1000, -1000
	for seed := range uint64(500) {
		w.Seed = seed
		n, e := world.Shown(w, 0, 299)
		if e != api.OK {
			t.Fatal(e)
		}
		least, most = min(least, n), max(most, n)
	}
	if x, e := world.Reach(w, 0, 299); x != (api.Span{Lo: least, Hi: most}) || e != api.OK {
		t.Error(x, e, least, most)
	}
	stopped := one(world.Clock{Phase: 10, Walk: 1, White: 1, Events: []world.Event{event(world.Stop, 1, 0)}})
	if x, e := world.Reach(stopped, 0, 299); x != (api.Span{Lo: 7, Hi: 13}) || e != api.OK {
		t.Error(x, e)
	}
	if x, e := world.Growth(stopped, 0, 0, 299); x != (api.Span{Lo: -2, Hi: 2}) || e != api.OK {
		t.Error(x, e)
	}
}

// P1.3: the errors of Growth in their order.
func TestGrowthErrors(t *testing.T) {
	w := one(world.Clock{})
	for _, c := range []struct {
		k, from, to int
		want        api.Errno
	}{
		{1, last + 1, -1, api.ErrClock}, {0, last + 1, 5, api.ErrTime}, {0, 5, -1, api.ErrTime}, {0, -1, 5, api.ErrTime}, {0, 5, last + 1, api.ErrTime}, {0, 5, 4, api.ErrArg}, {0, 5, 5, api.OK},
	} {
		if x, e := world.Growth(w, c.k, c.from, c.to); x != (api.Span{}) || e != c.want {
			t.Error(c, x, e)
		}
	}
}

// P1.5: whatever the seed, what is shown is in the reach, and the phase grows
// within its growth.
func TestWhateverTheSeed(t *testing.T) {
	r := rand.New(rand.NewSource(5))
	for range 200 {
		w := anyWorld(r)
		k := r.Intn(len(w.Clocks))
		from := r.Intn(last + 1)
		to := from + r.Intn(last+1-from)
		reach, _ := world.Reach(w, k, to)
		growth, _ := world.Growth(w, k, from, to)
		for range 5 {
			w.Seed = r.Uint64()
			if again, _ := world.Reach(w, k, to); again != reach {
				t.Fatal("the reach hangs on the seed", w, k, to)
			}
			if again, _ := world.Growth(w, k, from, to); again != growth {
				t.Fatal("the growth hangs on the seed", w, k, from, to)
			}
			n, e := world.Shown(w, k, to)
			if e == api.OK && (n < reach.Lo || n > reach.Hi) {
				t.Fatal(w, k, to, n, reach)
			}
			a, _ := world.Phase(w, k, from)
			b, _ := world.Phase(w, k, to)
			if b-a < growth.Lo || b-a > growth.Hi {
				t.Fatal(w, k, from, to, b-a, growth)
			}
		}
	}
}

// extreme is the world whose clocks show the most, or the least, of all.
func extreme(sign int) world.World {
	events := make([]world.Event, world.MaxEvents)
	for i := range events {
		events[i] = event(world.Step, i+1, sign*world.MaxStep)
	}
	c := world.Clock{
		Kind: world.Quartz, Phase: sign * world.MaxStart, Rate: sign * 10000000000, Drift: sign * 10000000,
		White: 1000000000000, Walk: 1000000000, Heat: sign * world.MaxHeat, Events: events,
	}
	w := one(c)
	w.Chambers[0] = world.Chamber{Base: 1000000, Swing: 100000, Period: 2}
	return w
}

// P1.5: nothing has 4 10^14 fs or more, either way.
func TestNothingIsFar(t *testing.T) {
	for _, sign := range []int{1, -1} {
		w := extreme(sign)
		kicked := copyOf(w)
		for i := range kicked.Clocks[0].Events {
			kicked.Clocks[0].Events[i] = event(world.Kick, i+1, sign*world.MaxKick)
		}
		for _, w := range []world.World{w, kicked} {
			for _, s := range []int{0, 1, 9, last - 1, last} {
				x, e := world.Reach(w, 0, s)
				if e != api.OK || x.Lo <= -400000000000000 || x.Hi >= 400000000000000 {
					t.Error(sign, s, x, e)
				}
				n := slowFixed(w, 0, s)
				if (x.Lo+x.Hi)/2 != n {
					t.Error(sign, s, x, n)
				}
			}
		}
	}
}
