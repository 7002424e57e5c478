package steer_test

import (
	"math"
	"slices"
	"testing"

	"meridian/api"
	"meridian/counter"
	"meridian/steer"
	"meridian/world"
)

// apart are two masers without noise, of which the first one goes away by 10 fs
// each second, comes back by 20 fs each second from second 60 on, and stops at
// second 5000.
func apart() world.World {
	events := []world.Event{{What: world.Kick, At: 60, Size: -30000}, {What: world.Stop, At: 5000}}
	return world.World{Seed: 3, Chambers: []world.Chamber{{Period: 2}}, Clocks: []world.Clock{{Kind: world.Maser, Rate: 10000, Events: events}, {Kind: world.Maser}}}
}

func fine() counter.Counter { return counter.Counter{Factor: 1, Grid: 2, Range: 4000, Dead: 5} }

// P6.4: it counts up to the first span that is not wholly inside.
func TestLock(t *testing.T) {
	for i, c := range []struct{ from, step, count, most, want int }{
		{0, 10, 5, 500, 5}, {0, 10, 6, 500, 5}, {0, 10, 30, 500, 5}, {0, 10, 6, 501, 6}, {0, 10, 6, 499, 5},
		{0, 10, 30, 599, 6}, {0, 10, 30, 600, 6}, {0, 10, 12, 601, 12}, // 601 is reached at second 60, and later on -601
		{0, 10, 1, 1, 1}, {0, 10, 1, 0, 1}, {0, 10, 2, 0, 1}, {0, 5, 0, 0, 0}, {0, 10, 5, 1999, 5}, {90, 10, 5, 100, 1},
	} {
		n, l, e := steer.Lock(fine(), apart(), 0, 1, c.from, c.step, c.count, c.most)
		if n != c.want || len(l) != c.count || e != api.OK {
			t.Error(i, n, len(l), e)
		}
	}
	n, l, e := steer.Lock(fine(), apart(), 0, 1, 0, 30, 5, 400)
	want := []api.Span{{Lo: -1, Hi: 1}, {Lo: 299, Hi: 301}, {Lo: 599, Hi: 601}, {Lo: -1, Hi: 1}, {Lo: -601, Hi: -599}}
	if n != 2 || !slices.Equal(l, want) || e != api.OK {
		t.Error(n, l, e)
	}
	// The other way round, what comes out below counts, too.
	n, l, e = steer.Lock(fine(), apart(), 1, 0, 0, 30, 5, 400)
	if n != 2 || l[2] != (api.Span{Lo: -601, Hi: -599}) || e != api.OK {
		t.Error(n, l, e)
	}
}

// P6.4: the spans are those of counter.Follow, with noise, too.
func TestLockFollows(t *testing.T) {
	c := counter.Counter{Factor: 3, Offset: -500, Jitter: 200, Grid: 50, Range: 100000000, Dead: 5, Id: 8}
	few := 0
	for seed := range uint64(100) {
		w := world.World{Seed: seed, Chambers: []world.Chamber{{Base: 20000, Swing: 500, Period: 1000}}, Clocks: []world.Clock{
			{Kind: world.Tube, Phase: 900000, Rate: 5000000, White: 3000, Walk: 400, Heat: -3},
			{Kind: world.Maser, Rate: -700000, Drift: 90000, White: 1000, Walk: 70, Heat: 2},
		}}
		from, step, count, most := 5*(int(seed)%10), 50, int(seed)%40, 1500000+int(seed)*10000
		n, l, e := steer.Lock(c, w, 0, 1, from, step, count, most)
		shown, _ := counter.Watch(c, w, 0, 1, from, step, count)
		want, x := counter.Follow(c, w, 0, 1, from, step, shown, api.Span{Lo: -most, Hi: most})
		if e != api.OK || x != api.OK || !slices.Equal(l, want) {
			t.Fatal(seed, l, want, e, x)
		}
		inside := 0
		for inside < len(l) && l[inside].Lo >= -most && l[inside].Hi <= most {
			inside++
		}
		if n != inside {
			t.Fatal(seed, n, inside, l)
		}
		if n < count {
			few++
		}
	}
	if few < 10 || few > 90 {
		t.Error("too few worlds that matter", few)
	}
}

// P6.4: the errors of Lock in their order.
func TestLockErrors(t *testing.T) {
	w := apart()
	for i, x := range []struct {
		c                             counter.Counter
		w                             world.World
		a, b, from, step, count, most int
		want                          api.Errno
	}{
		{counter.Counter{}, world.World{}, 9, 9, -1, 0, -1, -1, api.ErrArg},
		{counter.Counter{}, world.World{}, 9, 9, -1, 0, -1, 1000000000000001, api.ErrArg},
		{counter.Counter{}, world.World{}, 9, 9, -1, 0, -1, math.MinInt, api.ErrArg},
		{counter.Counter{}, world.World{}, 9, 9, -1, 0, -1, math.MaxInt, api.ErrArg},
		{counter.Counter{}, world.World{}, 9, 9, -1, 0, -1, 0, api.ErrCount},
		{fine(), world.World{}, 9, 9, -1, 0, 1, 500, api.ErrArg},
		{fine(), world.World{}, 9, 9, -1, 10, -1, 500, api.ErrArg},
		{fine(), world.World{}, 9, 9, -1, 10, 2001, 500, api.ErrArg},
		{fine(), world.World{}, 9, 9, -1, 10, 1, 500, api.ErrMany},
		{fine(), world.World{}, 9, 9, -1, 10, 0, 500, api.ErrMany}, // Watch looks at nothing, but Follow does
		{fine(), w, 0, 2, 0, 10, 10, 500, api.ErrClock},
		{fine(), w, 0, 2, 0, 10, 0, 500, api.ErrClock},
		{fine(), w, 0, 0, 0, 10, 10, 500, api.ErrArg},
		{fine(), w, 0, 1, -5, 10, 10, 500, api.ErrTime},
		{fine(), w, 0, 1, 1, 10, 10, 500, api.ErrTime},
		{fine(), w, 0, 1, 1, 10, 0, 500, api.ErrTime},
		{fine(), w, 0, 1, 0, 7, 10, 500, api.ErrTime},
		{fine(), w, 0, 1, 4995, 5, 2, 500, api.ErrStop},
		{fine(), w, 0, 1, 0, 10, 10, 5000, api.ErrLarge},
		{fine(), w, 0, 1, 50, 10, 10, 300, api.ErrEmpty},
		{fine(), w, 0, 1, 0, 10, 10, 1000000000000000, api.ErrLarge},
		{fine(), w, 0, 1, 0, 10, 0, 1000000000000000, api.OK},
		{fine(), w, 0, 1, 0, 10, 2000, 500, api.ErrStop},
	} {
		if n, l, e := steer.Lock(x.c, x.w, x.a, x.b, x.from, x.step, x.count, x.most); e != x.want || n != 0 || len(l) != 0 {
			t.Error(i, n, len(l), e)
		}
	}
	c := fine()
	c.Range = counter.MaxRange
	if n, l, e := steer.Lock(c, w, 0, 1, 0, 10, 3, 400000000000000); n != 3 || len(l) != 3 || e != api.OK {
		t.Error(n, l, e)
	}
}
