package scale_test

import (
	"math"
	"math/rand"
	"slices"
	"testing"

	"meridian/api"
	"meridian/scale"
)

// isPoint checks a point.
func isPoint(t *testing.T, p scale.Point, epoch, u int, ids, weights []int) {
	t.Helper()
	if !samePoint(p, scale.Point{Epoch: epoch, U: u, Ids: ids, Weights: weights}) {
		t.Error(p, "not", epoch, u, ids, weights)
	}
}

// P4.3: the chapter's second example.
func TestTakeExample(t *testing.T) {
	c := two(t)
	isPoint(t, take(t, c, scale.Reading{Id: 1, Diff: 106}, scale.Reading{Id: 2, Diff: 190}), 1, 2, []int{1, 2}, []int{500000, 500000})
	l := members(t, c)
	if !sameMember(l[0], scale.Member{Id: 1, H: 108, Rate: 9, Memory: 2, Misses: []int{2}}) || !sameMember(l[1], scale.Member{Id: 2, H: 192, Rate: -9, Memory: 2, Misses: []int{-2}}) {
		t.Error(l)
	}
}

// P4.3: the chapter's third example: of two that differ as much the first one
// of the members is left out, in whatever order they are read; of three the one
// that differs from both others.
func TestGateExample(t *testing.T) {
	far := []scale.Reading{{Id: 1, Diff: 106}, {Id: 2, Diff: 5000}}
	for range 2 {
		isPoint(t, take(t, two(t), far...), 1, -4810, []int{2}, []int{scale.Whole})
		slices.Reverse(far)
	}
	c := two(t)
	enter(t, c, 3, 300, 0, 2)
	isPoint(t, take(t, c, append(far, scale.Reading{Id: 3, Diff: 296})...), 1, 4, []int{1, 3}, []int{500000, 500000})
	l := members(t, c)
	if l[1].H != 5004 || l[1].Rate != 2397 || !slices.Equal(l[1].Misses, []int{-4814}) {
		t.Error("who is left out goes on from its reading", l)
	}
}

// P4.3: half of a unit is rounded to the greater number.
func TestRounding(t *testing.T) {
	for _, c := range []struct{ a, b, u int }{{0, 1, 1}, {0, -1, 0}, {-1, -2, -1}, {1, 2, 2}, {3, 3, 3}, {-3, 0, -1}, {3, 0, 2}} {
		s := made(t, wide(), 0)
		enter(t, s, 0, 0, 0, 1)
		enter(t, s, 1, 0, 0, 1)
		if p := take(t, s, scale.Reading{Id: 0, Diff: -c.a}, scale.Reading{Id: 1, Diff: -c.b}); p.U != c.u {
			t.Error(c, p)
		}
	}
	// thirds, with the weights 333334, 333333 and 333333
	for _, c := range []struct{ a, u int }{{1, 0}, {2, 1}, {-1, 0}, {-2, -1}, {4, 1}, {5, 2}} {
		s := made(t, wide(), 0)
		var l []scale.Reading
		for id := range 3 {
			enter(t, s, id, 0, 0, 1)
			l = append(l, scale.Reading{Id: id})
		}
		l[2].Diff = -c.a
		if p := take(t, s, l...); p.U != c.u {
			t.Error(c, p)
		}
	}
}

// P4.3: a rate grows by what was missed, divided towards 0.
func TestRates(t *testing.T) {
	for _, c := range []struct{ miss, memory, rate int }{{4, 1, 96}, {3, 2, 99}, {-3, 2, 101}, {999, 1000, 100}, {-999, 1000, 100}, {1000, 1000, 99}, {-5000, 1000, 105}} {
		s := made(t, scale.Setup{Cap: scale.Whole, Gate: 1, Keep: 1}, 0)
		for id := range 3 {
			enter(t, s, id, 0, 0, 1)
		}
		enter(t, s, 3, 0, 100, c.memory)
		take(t, s, scale.Reading{Id: 3, Diff: 100 - c.miss}, scale.Reading{}, scale.Reading{Id: 1}, scale.Reading{Id: 2})
		m := members(t, s)[3]
		if m.Rate != c.rate || m.H != 100-c.miss || !slices.Equal(m.Misses, []int{c.miss}) {
			t.Error(c, m)
		}
	}
}

// P4.3: who differs by Gate stays, who differs by more does not, on both sides.
func TestGateLimit(t *testing.T) {
	for _, gate := range []int{1, 2, 1000, scale.MaxGate} {
		for _, sign := range []int{1, -1} {
			for more, want := range map[int][]int{0: {0, 1}, 2: {1}} {
				s := made(t, scale.Setup{Cap: scale.Whole, Gate: gate, Keep: 1}, 0)
				enter(t, s, 0, 0, 0, 1)
				enter(t, s, 1, 0, 0, 1)
				p := take(t, s, scale.Reading{Id: 0}, scale.Reading{Id: 1, Diff: sign * (2*gate + more)})
				if !slices.Equal(p.Ids, want) {
					t.Error(gate, sign, more, p)
				}
			}
		}
	}
}

// P4.3: one after the other is left out, with new weights each time, and one
// that is alone stays whatever it says.
func TestGateRounds(t *testing.T) {
	s := made(t, scale.Setup{Cap: 400000, Gate: 10, Keep: 1}, 0)
	var l []scale.Reading
	for id := range 6 {
		enter(t, s, id, 0, 0, 1)
		l = append(l, scale.Reading{Id: id, Diff: []int{0, 1000, -3, 20000, 3, -20}[id]})
	}
	p, e := s.Expect(l)
	if e != api.OK {
		t.Fatal(e)
	}
	isPoint(t, p, 1, 0, []int{0, 2, 4}, []int{333334, 333333, 333333})
	isPoint(t, take(t, s, l[1], l[3]), 1, -20000, []int{3}, []int{scale.Whole})
}

// P4.3: the weights have the Cap as their limit, and the least Cap with which
// they can be apportioned if there are too few.
func TestCap(t *testing.T) {
	for _, c := range []struct {
		most, count int
		want        []int
	}{
		{scale.Whole, 1, []int{scale.Whole}},
		{1, 1, []int{scale.Whole}},
		{999999, 1, []int{scale.Whole}},
		{499999, 2, []int{500000, 500000}},
		{333333, 3, []int{333334, 333333, 333333}},
		{1, 3, []int{333334, 333333, 333333}},
		{1, 7, []int{142858, 142857, 142857, 142857, 142857, 142857, 142857}},
	} {
		s := made(t, scale.Setup{Cap: c.most, Gate: 1, Keep: 1}, 0)
		for id := range c.count {
			enter(t, s, id, id, 0, 1)
		}
		if l := weightsOf(t, s); !slices.Equal(l, c.want) {
			t.Error(c, l)
		}
	}
	// powers that differ: the first one has ten times that of the second one
	lists := [][]int{{0}, {3000}, {3000}}
	for most, want := range map[int][]int{scale.Whole: {833334, 83333, 83333}, 500000: {500000, 250000, 250000}, 400000: {400000, 300000, 300000}, 333334: {333334, 333333, 333333}, 333333: {333334, 333333, 333333}, 1: {333334, 333333, 333333}} {
		if l := weightsOf(t, afterMisses(t, most, lists...)); !slices.Equal(l, want) {
			t.Error(most, l, want)
		}
	}
}

// P4.3: who has not waited does not count, as long as there is one who has.
func TestWait(t *testing.T) {
	s := made(t, scale.Setup{Cap: scale.Whole, Gate: 1000, Wait: 3, Keep: 1}, 0)
	enter(t, s, 0, 0, 0, 1000)
	isPoint(t, take(t, s, scale.Reading{}), 1, 0, []int{0}, []int{scale.Whole})
	enter(t, s, 1, 0, 0, 1000)
	for epoch := 2; epoch <= 5; epoch++ {
		want := []int{0, 1}
		if epoch == 3 {
			want = []int{0} // the first one has waited since epoch 0, and not yet the second one
		}
		p := take(t, s, scale.Reading{Id: 1}, scale.Reading{})
		if !slices.Equal(p.Ids, want) {
			t.Error(epoch, p)
		}
	}
	enter(t, s, 2, 0, 0, 1000)
	p, e := s.Expect([]scale.Reading{{Id: 2, Diff: -7}})
	if e != api.OK {
		t.Fatal(e)
	}
	isPoint(t, p, 6, 7, []int{2}, []int{scale.Whole})
}

// P4.3: without a Wait a member counts at once.
func TestNoWait(t *testing.T) {
	s := made(t, wide(), 0)
	enter(t, s, 0, 0, 0, 1)
	take(t, s, scale.Reading{})
	enter(t, s, 1, 0, 0, 1)
	isPoint(t, take(t, s, scale.Reading{}, scale.Reading{Id: 1, Diff: -10}), 2, 5, []int{0, 1}, []int{500000, 500000})
}

// P4.3: who does not count, or is left out, is measured by u, too; who is not
// present is expected.
func TestOthers(t *testing.T) {
	s := made(t, scale.Setup{Cap: scale.Whole, Gate: 10, Wait: 1, Keep: 2}, 0)
	for id := range 4 {
		enter(t, s, id, 0, 0, 2)
	}
	take(t, s, scale.Reading{}, scale.Reading{Id: 1}, scale.Reading{Id: 2}, scale.Reading{Id: 3})
	enter(t, s, 4, 0, 6, 3)
	enter(t, s, 5, 8, -3, 4)
	isPoint(t, take(t, s, scale.Reading{Id: 5, Diff: 100}, scale.Reading{Id: 3, Diff: 50}, scale.Reading{}, scale.Reading{Id: 2}), 2, 0, []int{0, 2}, []int{500000, 500000})
	want := []scale.Member{
		{Id: 0, Memory: 2, Misses: []int{0, 0}},
		{Id: 1, Memory: 2, Misses: []int{0}},
		{Id: 2, Memory: 2, Misses: []int{0, 0}},
		{Id: 3, H: 50, Rate: 25, Memory: 2, Misses: []int{0, -50}},
		{Id: 4, H: 6, Rate: 6, Memory: 3, Since: 1},
		{Id: 5, H: 100, Rate: 20, Memory: 4, Since: 1, Misses: []int{-95}},
	}
	if l := members(t, s); !slices.EqualFunc(l, want, sameMember) {
		t.Error(l)
	}
}

// P4.3: just the last Keep misses are kept, cut off at both limits.
func TestMisses(t *testing.T) {
	for _, keep := range []int{1, 2, scale.MaxKeep} {
		s := made(t, scale.Setup{Cap: scale.Whole, Gate: 1, Keep: keep}, 0)
		for id := range 4 {
			enter(t, s, id, 0, 0, 1000)
		}
		var all []int
		for k, miss := range slices.Repeat([]int{maxMiss, maxMiss + 1, -maxMiss - 1, 300 * maxMiss, -300 * maxMiss, maxMiss - 1, 1 - maxMiss, 5, -5, 0}, 4) {
			m := members(t, s)[3]
			take(t, s, scale.Reading{}, scale.Reading{Id: 1}, scale.Reading{Id: 2}, scale.Reading{Id: 3, Diff: m.H + m.Rate - miss})
			all = append(all, min(max(miss, -maxMiss), maxMiss))
			if m := members(t, s)[3]; !slices.Equal(m.Misses, all[max(0, len(all)-keep):]) {
				t.Fatal(keep, k, m.Misses)
			}
		}
	}
}

// failing are readings with the error that Take has for them.
type failing struct {
	l []scale.Reading
	e api.Errno
}

// fails checks that Take and Expect have the errors, with which nothing changes.
func fails(t *testing.T, c *scale.Scale, l []failing) {
	t.Helper()
	before := keptOf(t, c)
	for _, x := range l {
		if p, e := c.Take(x.l); e != x.e || !samePoint(p, scale.Point{}) {
			t.Error("Take", x, p, e)
		}
		if p, e := c.Expect(x.l); e != x.e || !samePoint(p, scale.Point{}) {
			t.Error("Expect", x, p, e)
		}
	}
	if !before.same(keptOf(t, c)) {
		t.Error("an error changed the scale", before, keptOf(t, c))
	}
}

// P4.3, R1: the errors of readings.
func TestTakeErrors(t *testing.T) {
	c := two(t)
	over := scale.MaxDiff + 1
	fails(t, c, []failing{
		{nil, api.ErrNone},
		{[]scale.Reading{}, api.ErrNone},
		{[]scale.Reading{{Id: 3}}, api.ErrMember},
		{[]scale.Reading{{Id: -1}}, api.ErrMember},
		{[]scale.Reading{{Id: 3, Diff: over}}, api.ErrMember},
		{[]scale.Reading{{Id: 1}, {Id: 1}}, api.ErrTwice},
		{[]scale.Reading{{Id: 1}, {Id: 2}, {Id: 1, Diff: over}}, api.ErrTwice},
		{[]scale.Reading{{Id: 1, Diff: over}}, api.ErrRange},
		{[]scale.Reading{{Id: 1, Diff: -over}}, api.ErrRange},
		{[]scale.Reading{{Id: 2, Diff: math.MaxInt}}, api.ErrRange},
		{[]scale.Reading{{Id: 2, Diff: math.MinInt}}, api.ErrRange},
		{[]scale.Reading{{Id: 1, Diff: over}, {Id: 3}}, api.ErrRange},
		{[]scale.Reading{{Id: 1, Diff: over}, {Id: 1}}, api.ErrRange},
		{[]scale.Reading{{Id: 3}, {Id: 1, Diff: over}}, api.ErrMember},
		{[]scale.Reading{{Id: 1}, {Id: 1}, {Id: 3}}, api.ErrTwice},
		{[]scale.Reading{{Id: 1}, {Id: 3}, {Id: 1}}, api.ErrMember},
	})
	if e := c.Leave(1); e != api.OK {
		t.Error(e)
	}
	fails(t, c, []failing{{[]scale.Reading{{Id: 1}}, api.ErrMember}})
	fails(t, made(t, wide(), 0), []failing{{nil, api.ErrNone}, {[]scale.Reading{{}}, api.ErrMember}})
}

// P4.3: an estimate that is too great, on both sides; the limit itself is none.
func TestEstimateLimit(t *testing.T) {
	for _, sign := range []int{1, -1} {
		c := made(t, wide(), sign*scale.MaxDiff)
		enter(t, c, 1, 0, 0, 1)
		enter(t, c, 2, sign*5, 0, 1)
		fails(t, c, []failing{
			{[]scale.Reading{{Id: 2, Diff: -sign * (scale.MaxDiff - 4)}}, api.ErrRange},
			{[]scale.Reading{{Id: 1}, {Id: 2, Diff: -sign * (scale.MaxDiff - 4)}}, api.ErrRange},
			{[]scale.Reading{{Id: 2, Diff: -sign * scale.MaxDiff}, {Id: 3}}, api.ErrMember}, // readings come first
		})
		p := take(t, c, scale.Reading{Id: 2, Diff: -sign * (scale.MaxDiff - 5)})
		isPoint(t, p, 1, sign*2*scale.MaxDiff, []int{2}, []int{scale.Whole})
	}
}

// P4.3: an h that is too great without a reading; the limit itself is none.
func TestExpectedLimit(t *testing.T) {
	for _, sign := range []int{1, -1} {
		c := made(t, wide(), sign*scale.MaxDiff)
		enter(t, c, 1, 0, 0, 1)
		take(t, c, scale.Reading{Id: 1, Diff: -sign * scale.MaxDiff}) // u is at its limit
		enter(t, c, 2, sign*(scale.MaxDiff-2), sign, 1)
		take(t, c, scale.Reading{Id: 1, Diff: -sign * scale.MaxDiff})
		take(t, c, scale.Reading{Id: 1, Diff: -sign * scale.MaxDiff})
		if m := members(t, c)[1]; m.H != sign*3*scale.MaxDiff {
			t.Error(m)
		}
		fails(t, c, []failing{
			{[]scale.Reading{{Id: 1, Diff: -sign * scale.MaxDiff}}, api.ErrRange},
			{[]scale.Reading{{Id: 1, Diff: -sign * scale.MaxDiff}, {Id: 1}}, api.ErrTwice},
			{nil, api.ErrNone},
		})
		if e := c.Leave(2); e != api.OK {
			t.Error(e)
		}
		take(t, c, scale.Reading{Id: 1, Diff: -sign * scale.MaxDiff})
	}
}

// P4.3: no more than MaxEpochs epochs, an error that comes first.
func TestManyEpochs(t *testing.T) {
	c := made(t, wide(), 0)
	enter(t, c, 1, 0, 1, 1)
	for epoch := 1; epoch <= scale.MaxEpochs; epoch++ {
		if p := take(t, c, scale.Reading{Id: 1, Diff: epoch}); p.Epoch != epoch || p.U != 0 {
			t.Fatal(epoch, p)
		}
	}
	fails(t, c, []failing{
		{[]scale.Reading{{Id: 1}}, api.ErrMany},
		{[]scale.Reading{{Id: 2}}, api.ErrMany},
		{nil, api.ErrMany},
	})
	if len(points(t, c)) != scale.MaxEpochs+1 {
		t.Error(len(points(t, c)))
	}
	enter(t, c, 2, 0, 0, 1)
	if l := members(t, c); l[1].Since != scale.MaxEpochs {
		t.Error(l)
	}
}

// P4.2, P4.3, P4.4: scales as the chapter's words have them.
func TestAnyScale(t *testing.T) {
	r := rand.New(rand.NewSource(3))
	for range 1500 {
		s := anySetup(r)
		size := 1 + r.Intn(1<<(1+r.Intn(34)))
		c := made(t, s, around(r, size))
		slow := &slowScale{setup: s, u: points(t, c)[0].U}
		for range 25 {
			step(t, r, c, slow, size)
		}
	}
}

// step does anything to both scales, and compares them.
func step(t *testing.T, r *rand.Rand, c *scale.Scale, slow *slowScale, size int) {
	t.Helper()
	id := r.Intn(20)
	switch r.Intn(6) {
	case 0, 1:
		diff, rate, memory := around(r, size), around(r, min(size, scale.MaxRate)), 1+r.Intn(1+r.Intn(1000))
		if c.Enter(id, diff, rate, memory) == api.OK {
			slow.enter(id, diff, rate, memory)
		}
	case 2:
		if r.Intn(3) == 0 && c.Leave(id) == api.OK {
			slow.leave(id)
		}
	default:
		stepEpoch(t, r, c, slow, size)
	}
	if l := members(t, c); !slices.EqualFunc(l, slow.members, sameMember) {
		t.Fatal(l, slow.members)
	}
}

// stepEpoch takes an epoch: most often what is read is near what is expected.
func stepEpoch(t *testing.T, r *rand.Rand, c *scale.Scale, slow *slowScale, size int) {
	t.Helper()
	diffs := map[int]int{}
	var l []scale.Reading
	shift := around(r, size)
	for _, i := range r.Perm(len(slow.members)) {
		m := slow.members[i]
		d := m.H + m.Rate - shift + around(r, r.Intn(1+r.Intn(size)))
		if r.Intn(5) > 0 && max(d, -d) <= scale.MaxDiff {
			diffs[m.Id] = d
			l = append(l, scale.Reading{Id: m.Id, Diff: d})
		}
	}
	if len(l) == 0 {
		return
	}
	expected, e := c.Expect(l)
	p, f := c.Take(l)
	want := slow.take(diffs)
	if e != api.OK || f != api.OK || !samePoint(p, want) || !samePoint(expected, want) {
		t.Fatal(slow.setup, l, expected, e, p, f, want)
	}
}
