package counter_test

import (
	"math/big"
	"math/rand"

	"meridian/api"
	"meridian/counter"
	"meridian/world"
)

const (
	last  = 1000000
	phase = 1000000000000000
)

// chapter is the counter of the chapter's examples.
func chapter() counter.Counter {
	return counter.Counter{Factor: 1, Grid: 100, Range: 1000, Dead: 1}
}

// widest is a counter with all numbers at their limits.
func widest(sign int) counter.Counter {
	return counter.Counter{Factor: 1000, Offset: sign * counter.MaxOffset, Jitter: counter.MaxJitter, Grid: counter.MaxGrid, Range: counter.MaxRange, Dead: 100000, Id: 1000000}
}

// small is a counter whose turns can be told by trying all numbers.
func small(r *rand.Rand) counter.Counter {
	grid := 1 + r.Intn(6)
	return counter.Counter{Factor: 1 + r.Intn(12), Offset: r.Intn(41) - 20, Jitter: r.Intn(1 + r.Intn(20)), Grid: grid, Range: 2 * grid * (1 + r.Intn(12)), Dead: 1 + r.Intn(3), Id: r.Intn(5)}
}

func span(lo, hi int) api.Span { return api.Span{Lo: lo, Hi: hi} }

func whole(n int) *big.Int { return big.NewInt(int64(n)) }

func plus(l ...*big.Int) *big.Int {
	sum := new(big.Int)
	for _, x := range l {
		sum.Add(sum, x)
	}
	return sum
}

func times(a, b *big.Int) *big.Int { return new(big.Int).Mul(a, b) }

// slowWrap follows the chapter's words, with numbers that cannot overflow.
func slowWrap(c counter.Counter, n *big.Int) int {
	half := whole(c.Range / 2)
	m := new(big.Int).Mod(plus(n, half), whole(c.Range))
	return int(m.Int64()) - c.Range/2
}

// slowShow follows the chapter's words: of the two multiples of the Grid next
// to the raw value it takes the lower one only if that is nearer.
func slowShow(c counter.Counter, seed uint64, s, d int) int {
	draw, e := world.Draw(seed, 3, c.Id, s, c.Jitter)
	if e != api.OK {
		panic(e)
	}
	raw := plus(times(whole(c.Factor), whole(d)), whole(c.Offset), whole(draw))
	above := new(big.Int).Mod(raw, whole(c.Grid)) // what the lower one lacks
	if 2*int(above.Int64()) >= c.Grid {
		raw = plus(raw, whole(c.Grid))
	}
	return slowWrap(c, plus(raw, new(big.Int).Neg(above)))
}

// quiet are two masers without noise, apart by less than a microsecond.
func quiet() world.World {
	return world.World{Seed: 9, Chambers: []world.Chamber{{Base: 20000, Swing: 500, Period: 1000}}, Clocks: []world.Clock{
		{Kind: world.Maser, Phase: 7000, Rate: 1000},
		{Kind: world.Maser, Phase: 1000, Rate: -2000},
	}}
}

// noisy has clocks with all that can move them, one of which stops.
func noisy(seed uint64) world.World {
	w := quiet()
	w.Seed = seed
	w.Clocks = []world.Clock{
		{Kind: world.Tube, Phase: 900000, Rate: 5000000, Drift: 9000, White: 3000, Walk: 400, Heat: -3},
		{Kind: world.Maser, Rate: -700000, Drift: 90000, White: 1000, Walk: 70, Heat: 2, Events: []world.Event{{What: world.Step, At: 35, Size: -60000}, {What: world.Kick, At: 300, Size: 4000000}}},
		{Kind: world.Quartz, White: 100000, Walk: 10000, Events: []world.Event{{What: world.Stop, At: 60}, {What: world.Start, At: 90}}},
	}
	return w
}
