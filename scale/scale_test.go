package scale_test

import (
	"math"
	"testing"

	"meridian/api"
	"meridian/scale"
)

// P4.1: each number of a setup has its limits.
func TestCheck(t *testing.T) {
	good := []scale.Setup{
		{Cap: 1, Gate: 1, Wait: 0, Keep: 1},
		{Cap: scale.Whole, Gate: scale.MaxGate, Wait: 100, Keep: scale.MaxKeep},
	}
	for _, s := range good {
		if e := scale.Check(s); e != api.OK {
			t.Error(s, e)
		}
	}
	change := func(number int, n int) scale.Setup {
		s := good[0]
		*[]*int{&s.Cap, &s.Gate, &s.Wait, &s.Keep}[number] = n
		return s
	}
	for number, l := range [][]int{{0, -1, scale.Whole + 1}, {0, -1, scale.MaxGate + 1}, {-1, 101}, {0, -1, scale.MaxKeep + 1}} {
		for _, n := range append(l, math.MinInt, math.MaxInt) {
			s := change(number, n)
			if e := scale.Check(s); e != api.ErrRange {
				t.Error(s, e)
			}
			if c, e := scale.New(s, 0); c != nil || e != api.ErrRange {
				t.Error(s, c, e)
			}
		}
	}
}

// P4.2: a scale that is new has its value, no member and the point of epoch 0.
func TestNew(t *testing.T) {
	for _, u := range []int{0, 1, -1, 77, scale.MaxDiff, -scale.MaxDiff} {
		k := keptOf(t, made(t, wide(), u))
		if len(k.members) != 0 || len(k.points) != 1 || !samePoint(k.points[0], scale.Point{U: u}) {
			t.Error(u, k)
		}
	}
	for _, u := range []int{scale.MaxDiff + 1, -scale.MaxDiff - 1, math.MaxInt, math.MinInt} {
		if c, e := scale.New(wide(), u); c != nil || e != api.ErrRange {
			t.Error(u, c, e)
		}
	}
}

// P4.2: what a member has when it enters, at any epoch, and its limits.
func TestEnter(t *testing.T) {
	c := made(t, wide(), 5)
	enter(t, c, 0, -scale.MaxDiff, -scale.MaxRate, 1)
	enter(t, c, 1000000, scale.MaxDiff, scale.MaxRate, 1000)
	take(t, c, scale.Reading{Id: 1000000, Diff: scale.MaxDiff - 200})
	u := points(t, c)[1].U
	if u != scale.MaxRate+205 {
		t.Fatal(u)
	}
	enter(t, c, 7, 30, 2, 3)
	want := []scale.Member{
		{Id: 0, H: 5 - scale.MaxDiff - scale.MaxRate, Rate: -scale.MaxRate, Memory: 1},
		{Id: 1000000, H: scale.MaxDiff - 200 + u, Rate: scale.MaxRate, Memory: 1000, Misses: []int{0}},
		{Id: 7, H: 30 + u, Rate: 2, Memory: 3, Since: 1},
	}
	l := members(t, c)
	for i, m := range want {
		if len(l) != len(want) || !sameMember(l[i], m) {
			t.Fatal(i, l)
		}
	}
}

// P4.2, R1: the errors of Enter, with which nothing changes.
func TestEnterErrors(t *testing.T) {
	c := two(t)
	before := keptOf(t, c)
	for _, x := range []struct {
		id, diff, rate, memory int
		e                      api.Errno
	}{
		{-1, 0, 0, 1, api.ErrRange},
		{1000001, 0, 0, 1, api.ErrRange},
		{3, scale.MaxDiff + 1, 0, 1, api.ErrRange},
		{3, -scale.MaxDiff - 1, 0, 1, api.ErrRange},
		{3, 0, scale.MaxRate + 1, 1, api.ErrRange},
		{3, 0, -scale.MaxRate - 1, 1, api.ErrRange},
		{3, 0, 0, 0, api.ErrRange},
		{3, 0, 0, 1001, api.ErrRange},
		{3, 0, 0, -1, api.ErrRange},
		{1, scale.MaxDiff + 1, 0, 1, api.ErrRange}, // before ErrTwice
		{1, 0, 0, 1, api.ErrTwice},
		{2, 5, 5, 5, api.ErrTwice},
		{math.MinInt, math.MinInt, math.MinInt, math.MinInt, api.ErrRange},
		{math.MaxInt, math.MaxInt, math.MaxInt, math.MaxInt, api.ErrRange},
	} {
		if e := c.Enter(x.id, x.diff, x.rate, x.memory); e != x.e {
			t.Error(x, e)
		}
	}
	if !before.same(keptOf(t, c)) {
		t.Error("an error changed the scale", keptOf(t, c))
	}
	for id := 3; id <= scale.MaxMembers; id++ {
		enter(t, c, id, 0, 0, 1)
	}
	before = keptOf(t, c)
	for _, x := range []struct {
		id, rate int
		e        api.Errno
	}{{17, 0, api.ErrMany}, {16, 0, api.ErrTwice}, {17, scale.MaxRate + 1, api.ErrRange}} {
		if e := c.Enter(x.id, 0, x.rate, 1); e != x.e {
			t.Error(x, e)
		}
	}
	if !before.same(keptOf(t, c)) || len(before.members) != scale.MaxMembers {
		t.Error("an error changed the scale", keptOf(t, c))
	}
	if e := c.Leave(5); e != api.OK {
		t.Error(e)
	}
	enter(t, c, 17, 0, 0, 1)
}

// P4.2: who leaves is gone; who comes back is the last one, without misses.
func TestLeave(t *testing.T) {
	c := two(t)
	enter(t, c, 3, 0, 0, 1)
	take(t, c, scale.Reading{Id: 1, Diff: 110}, scale.Reading{Id: 2, Diff: 190}, scale.Reading{Id: 3})
	for _, id := range []int{-1, 0, 4, math.MinInt, math.MaxInt} {
		if e := c.Leave(id); e != api.ErrMember {
			t.Error(id, e)
		}
	}
	before := keptOf(t, c)
	for _, id := range []int{2, 1} {
		if e := c.Leave(id); e != api.OK {
			t.Error(id, e)
		}
		if e := c.Leave(id); e != api.ErrMember {
			t.Error("left twice", id, e)
		}
	}
	enter(t, c, 1, 50, 0, 1)
	l := members(t, c)
	if len(l) != 2 || !sameMember(l[0], before.members[2]) || !sameMember(l[1], scale.Member{Id: 1, H: 50, Memory: 1, Since: 1}) {
		t.Error(l)
	}
	c.Leave(1)
	c.Leave(3)
	if l := members(t, c); len(l) != 0 || len(points(t, c)) != 2 {
		t.Error(l)
	}
}

// P4.4: all points, in their order.
func TestPoints(t *testing.T) {
	c := two(t)
	var want []scale.Point
	for i := range 20 {
		want = append(want, take(t, c, scale.Reading{Id: 1 + i%2, Diff: 100 + i}, scale.Reading{Id: 2 - i%2, Diff: 200 - i*i}))
	}
	l := points(t, c)
	if len(l) != 21 || !samePoint(l[0], scale.Point{}) {
		t.Fatal(l)
	}
	for i, p := range want {
		if !samePoint(l[i+1], p) || p.Epoch != i+1 {
			t.Error(i, l[i+1], p)
		}
	}
}

// P4.4: what a member would say of u.
func TestHold(t *testing.T) {
	c := two(t)
	for _, x := range []struct {
		id, diff, want int
		e              api.Errno
	}{
		{1, 106, 4, api.OK},
		{2, 190, 0, api.OK},
		{2, 5000, -4810, api.OK},
		{1, scale.MaxDiff, 110 - scale.MaxDiff, api.OK},
		{1, -scale.MaxDiff, 110 + scale.MaxDiff, api.OK},
		{1, scale.MaxDiff + 1, 0, api.ErrRange},
		{1, -scale.MaxDiff - 1, 0, api.ErrRange},
		{2, math.MinInt, 0, api.ErrRange},
		{2, math.MaxInt, 0, api.ErrRange},
		{3, 0, 0, api.ErrMember},
		{3, scale.MaxDiff + 1, 0, api.ErrMember},
		{math.MinInt, math.MinInt, 0, api.ErrMember},
	} {
		if n, e := c.Hold(x.id, x.diff); n != x.want || e != x.e {
			t.Error(x, n, e)
		}
	}
	take(t, c, scale.Reading{Id: 1, Diff: 106}, scale.Reading{Id: 2, Diff: 190})
	if n, e := c.Hold(1, 0); n != 117 || e != api.OK {
		t.Error("after an epoch", n, e)
	}
	if e := c.Leave(1); e != api.OK {
		t.Error(e)
	}
	if n, e := c.Hold(1, 0); n != 0 || e != api.ErrMember {
		t.Error("after it left", n, e)
	}
	// beyond what Take allows
	far := made(t, wide(), scale.MaxDiff)
	enter(t, far, 1, scale.MaxDiff, scale.MaxRate, 1)
	if n, e := far.Hold(1, -scale.MaxDiff); n != 3*scale.MaxDiff+scale.MaxRate || e != api.OK {
		t.Error(n, e)
	}
}

// P4.5: a nil scale and one that New did not return.
func TestNoObject(t *testing.T) {
	good := made(t, wide(), 0)
	enter(t, good, 1, 0, 0, 1)
	copied := *good
	for i, c := range []*scale.Scale{nil, {}, new(scale.Scale), &copied} {
		if e := c.Enter(-1, 0, 0, 0); e != api.ErrNil {
			t.Error(i, e)
		}
		if e := c.Leave(1); e != api.ErrNil {
			t.Error(i, e)
		}
		if p, e := c.Take(nil); !samePoint(p, scale.Point{}) || e != api.ErrNil {
			t.Error(i, p, e)
		}
		if p, e := c.Expect([]scale.Reading{{Id: 1}}); !samePoint(p, scale.Point{}) || e != api.ErrNil {
			t.Error(i, p, e)
		}
		if l, e := c.Members(); l != nil || e != api.ErrNil {
			t.Error(i, l, e)
		}
		if l, e := c.Points(); l != nil || e != api.ErrNil {
			t.Error(i, l, e)
		}
		if n, e := c.Hold(1, 0); n != 0 || e != api.ErrNil {
			t.Error(i, n, e)
		}
	}
}
