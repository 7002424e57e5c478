package scale_test

import (
	"math"
	"math/rand"
	"slices"
	"testing"

	"meridian/api"
	"meridian/scale"
)

// lived is a scale after some epochs, with members that came and went, and that
// weigh different amounts.
func lived(t *testing.T, r *rand.Rand, s scale.Setup, shift func(epoch int) int) *scale.Scale {
	t.Helper()
	c := made(t, s, r.Intn(1000))
	for id := range 3 + r.Intn(8) {
		enter(t, c, id, around(r, 1000), around(r, 5000), 1+r.Intn(1000))
	}
	for epoch := range 1 + r.Intn(12) {
		l := readings(t, r, c, 20000)
		for i := range l {
			l[i].Diff -= shift(epoch + 1)
		}
		take(t, c, l...)
		if r.Intn(3) == 0 {
			enter(t, c, 20+epoch, around(r, 1000)-shift(epoch+1), 0, 10)
			c.Leave(r.Intn(11))
		}
	}
	return c
}

// readings are what some members read, near what they should if u were 0.
func readings(t *testing.T, r *rand.Rand, c *scale.Scale, size int) []scale.Reading {
	t.Helper()
	var l []scale.Reading
	for i, m := range members(t, c) {
		if i == 0 || r.Intn(4) > 0 {
			l = append(l, scale.Reading{Id: m.Id, Diff: m.H + m.Rate + around(r, size)})
		}
	}
	return l
}

func steady(int) int { return 0 }

// P4.6: neither u nor any h changes when a clock enters or leaves.
func TestNoStep(t *testing.T) {
	r := rand.New(rand.NewSource(11))
	for range 200 {
		c := lived(t, r, anySetup(r), steady)
		before := keptOf(t, c)
		enter(t, c, 99, around(r, scale.MaxDiff), around(r, scale.MaxRate), 5)
		now := keptOf(t, c)
		if !before.same(kept{now.members[:len(before.members)], now.points}) {
			t.Fatal("Enter", before, now)
		}
		c.Leave(99)
		gone := before.members[0].Id
		c.Leave(gone)
		if !(kept{before.members[1:], before.points}).same(keptOf(t, c)) {
			t.Fatal("Leave", before, keptOf(t, c))
		}
	}
}

// P4.6: if all estimates are equal, u is this number, whoever the members are.
func TestEqualEstimates(t *testing.T) {
	r := rand.New(rand.NewSource(12))
	for range 500 {
		c := lived(t, r, anySetup(r), steady)
		enter(t, c, 99, around(r, 1000), around(r, 1000), 5)
		c.Leave(members(t, c)[0].Id)
		u := around(r, 1000000)
		var l []scale.Reading
		for _, m := range members(t, c) {
			if len(l) == 0 || r.Intn(4) > 0 {
				l = append(l, scale.Reading{Id: m.Id, Diff: m.H + m.Rate - u})
			}
		}
		if p := take(t, c, l...); p.U != u {
			t.Fatal(l, p, u)
		}
	}
}

// P4.6: if the master is early by any amount at an epoch, u is greater by it,
// and nothing else changes.
func TestMaster(t *testing.T) {
	for seed := range int64(300) {
		s := anySetup(rand.New(rand.NewSource(seed)))
		early := func(epoch int) int { return (epoch*7919 + int(seed)*104729) % 1000003 * (epoch%3 - 1) }
		want := keptOf(t, lived(t, rand.New(rand.NewSource(seed)), s, steady))
		got := keptOf(t, lived(t, rand.New(rand.NewSource(seed)), s, early))
		for i := range want.points[1:] {
			want.points[i+1].U += early(i + 1)
		}
		if !want.same(got) {
			t.Fatal(seed, want, got)
		}
	}
}

// P4.6: what holds for each point.
func TestEachPoint(t *testing.T) {
	r := rand.New(rand.NewSource(13))
	for range 1000 {
		s := anySetup(r)
		c := lived(t, r, s, steady)
		l := readings(t, r, c, 1+r.Intn(100000))
		estimates := map[int]int{}
		for _, x := range l {
			estimates[x.Id], _ = c.Hold(x.Id, x.Diff)
		}
		p := take(t, c, l...)
		if len(p.Ids) == 0 || len(p.Ids) != len(p.Weights) {
			t.Fatal(p)
		}
		sum, least, most := 0, math.MaxInt, math.MinInt
		for i, w := range p.Weights {
			sum += w
			e := estimates[p.Ids[i]]
			least, most = min(least, e), max(most, e)
			if w < 0 || s.Cap*len(p.Ids) >= scale.Whole && w > s.Cap {
				t.Fatal("weight", s, p)
			}
			if len(p.Ids) >= 2 && max(e-p.U, p.U-e) > s.Gate {
				t.Fatal("gate", s, p, e)
			}
		}
		if sum != scale.Whole || p.U < least || p.U > most {
			t.Fatal(s, p, sum, least, most)
		}
	}
}

// P4.3: Expect is what Take returns, and changes nothing.
func TestExpect(t *testing.T) {
	r := rand.New(rand.NewSource(14))
	for range 300 {
		c := lived(t, r, anySetup(r), steady)
		before := keptOf(t, c)
		l := readings(t, r, c, 50000)
		p, e := c.Expect(l)
		c.Expect(readings(t, r, c, 50000))
		if e != api.OK || !before.same(keptOf(t, c)) {
			t.Fatal(l, e, before, keptOf(t, c))
		}
		if q := take(t, c, l...); !samePoint(p, q) {
			t.Fatal(l, p, q)
		}
	}
}

// R4: results are new memory, and no argument is changed.
func TestMemory(t *testing.T) {
	c := two(t)
	l := []scale.Reading{{Id: 2, Diff: 190}, {Id: 1, Diff: 106}}
	for range 3 {
		expected, _ := c.Expect(l)
		spoil(expected)
		spoil(take(t, c, l...))
		if !slices.Equal(l, []scale.Reading{{Id: 2, Diff: 190}, {Id: 1, Diff: 106}}) {
			t.Fatal("the readings are changed", l)
		}
	}
	for _, k := range []kept{keptOf(t, c), keptOf(t, c)} {
		for _, p := range k.points {
			spoil(p)
		}
		for i := range k.members {
			k.members[i].H++
			k.members[i].Misses[0]++
			_ = append(k.members[i].Misses[:1], 77)
		}
		k.points[0].U++
	}
	fresh := two(t)
	for range 3 {
		take(t, fresh, l...)
	}
	if !keptOf(t, fresh).same(keptOf(t, c)) {
		t.Error("results share memory with the scale", keptOf(t, c))
	}
	l[0].Diff = 12345
	if !keptOf(t, fresh).same(keptOf(t, c)) {
		t.Error("the readings are kept", keptOf(t, c))
	}
}

// spoil changes the lists of a point.
func spoil(p scale.Point) {
	for _, l := range [][]int{p.Ids, p.Weights} {
		for i := range l {
			l[i] += 13
		}
		_ = append(l, 99)
	}
}

// P4.6: what one scale does is nothing to another one.
func TestTwoScales(t *testing.T) {
	a, b := two(t), two(t)
	take(t, a, scale.Reading{Id: 1, Diff: 50})
	enter(t, a, 9, 0, 0, 1)
	if !keptOf(t, b).same(keptOf(t, two(t))) {
		t.Error(keptOf(t, b))
	}
}

// P9: nothing panics or goes on for ever, whatever the arguments.
func TestAnyArguments(t *testing.T) {
	edges := []int{math.MinInt, math.MinInt + 1, -scale.MaxDiff - 1, -scale.MaxDiff, -1, 0, 1, 2, 30, 100, 1000, 1000000, scale.MaxRate, maxPower, scale.MaxDiff, scale.MaxDiff + 1, 1 << 62, math.MaxInt}
	r := rand.New(rand.NewSource(15))
	edge := func() int { return edges[r.Intn(len(edges))] }
	for range 3000 {
		s := scale.Setup{Cap: edge(), Gate: edge(), Wait: edge(), Keep: edge()}
		scale.Check(s)
		scale.New(s, edge())
		scale.Apportion([]int{edge(), edge()}, edge(), edge())
		scale.Apportion(slices.Repeat([]int{edge()}, r.Intn(18)), edge(), edge())
	}
	for range 300 {
		c := made(t, anySetup(r), []int{0, scale.MaxDiff, -scale.MaxDiff}[r.Intn(3)])
		for range 60 {
			anyCall(r, c, edge)
			anyCall(r, nil, edge)
			anyCall(r, new(scale.Scale), edge)
		}
	}
}

// anyCall calls any method, and checks no result.
func anyCall(r *rand.Rand, c *scale.Scale, edge func() int) {
	var l []scale.Reading
	for range r.Intn(5) {
		l = append(l, scale.Reading{Id: edge(), Diff: edge()})
	}
	switch r.Intn(7) {
	case 0:
		c.Enter(edge(), edge(), edge(), edge())
	case 1:
		c.Enter(r.Intn(3), scale.MaxDiff-r.Intn(2)*2*scale.MaxDiff, around(r, scale.MaxRate), 1)
	case 2:
		c.Leave(edge())
	case 3:
		c.Expect(l)
	case 4:
		c.Hold(edge(), edge())
	default:
		for id := range r.Intn(4) {
			l = append(l, scale.Reading{Id: id, Diff: around(r, scale.MaxDiff)})
		}
		c.Take(l)
	}
	c.Members()
	c.Points()
}
