package lab_test

import (
	"math/rand"
	"slices"
	"testing"

	"meridian/api"
	"meridian/lab"
	"meridian/scale"
	"meridian/stamp"
	"meridian/world"
)

// P14.6: whatever happens to the other clocks, a stamp holds the second at which it is
// given, and stamps are ordered as they were given.
func TestTrueTime(t *testing.T) {
	r := rand.New(rand.NewSource(6))
	given, late := 0, 0
	for range 1000 {
		s := anySetup(r, 5)
		s.World.Clocks[s.Master].Events = nil
		l := must[*lab.Lab](t)(lab.New(s))
		for range 40 {
			v := l.Act(anyOrder(r, len(s.World.Clocks)))
			if v.Stamp == (stamp.Stamp{}) {
				continue
			}
			now := must[int](t)(l.Now())
			if v.Stamp.Lo > now*1000000000 || v.Stamp.Hi < now*1000000000 {
				t.Fatal(now, v)
			}
			if b, n := must[api.Span](t)(l.Bound()), must[int](t)(l.Shows()); n < b.Lo || n > b.Hi {
				t.Fatal(b, n)
			}
			given++
			if now > 0 {
				late++
			}
		}
		list := must[[]stamp.Stamp](t)(l.Stamps())
		if n, e := stamp.Verify(s.Key, list); n != len(list) || e != api.OK {
			t.Fatal(n, e, list)
		}
		if _, e := stamp.Tight(list); e != api.OK {
			t.Fatal(e, list)
		}
	}
	if given < 2000 || late < 1000 {
		t.Error(given, late)
	}
}

// P14.6: as long as orders have no error, the realisation stays within its limit, half a
// unit of rounding aside.
func TestWithinLimit(t *testing.T) {
	r := rand.New(rand.NewSource(7))
	rows := 0
	for range 500 {
		s := anySetup(r, 5)
		orders := make([]lab.Order, 40)
		for i := range orders {
			orders[i] = anyOrder(r, len(s.World.Clocks))
		}
		l, _, e := lab.Run(s, orders)
		if e != api.OK {
			t.Fatal(e)
		}
		for _, row := range must[[]lab.Row](t)(l.Rows()) {
			rows++
			if most := s.Plan.Limit*s.Unit + s.Unit/2; row.Error < -most || row.Error > most {
				t.Error(s, row)
			}
		}
	}
	if rows < 2000 {
		t.Error(rows)
	}
}

// P14.6: clocks that do what is expected of them enter and leave without a step of the
// scale, whoever is a member.
func TestNoStep(t *testing.T) {
	r := rand.New(rand.NewSource(8))
	for range 100 {
		s := chapter(0, 700)
		s.Unit, s.Every = 1000000, 100
		for range 5 {
			s.World.Clocks = append(s.World.Clocks, world.Clock{Kind: world.Maser, Phase: around(r, 1000000)})
		}
		s.Scale.Cap, s.Scale.Wait = 200000+r.Intn(800001), r.Intn(4)
		l := run(t, s, enter(1, 10))
		for epoch := 1; epoch < 30; epoch++ {
			for range r.Intn(3) {
				before := must[[]scale.Member](t)(l.Members())
				o := lab.Order{Kind: lab.Enter + lab.Kind(r.Intn(2)), Clock: 2 + r.Intn(5), Count: 1 + r.Intn(1000)}
				if l.Act(o).Error != api.OK {
					continue
				}
				after := must[[]scale.Member](t)(l.Members())
				before = slices.DeleteFunc(before, func(m scale.Member) bool { return m.Id == o.Clock })
				after = slices.DeleteFunc(after, func(m scale.Member) bool { return m.Id == o.Clock })
				if !same(before, after) {
					t.Fatal(before, after)
				}
			}
			if v := acted(t, l, tick()); v.Row.U != 70*epoch {
				t.Fatal(epoch, v)
			}
		}
	}
}

// P14.6: if something unknown happens to some clocks alone, these explain the case.
func TestBlameOfSome(t *testing.T) {
	r := rand.New(rand.NewSource(9))
	blamed := 0
	for range 2000 {
		s := anySetup(r, 7)
		set, events := 0, 0
		for k, c := range s.World.Clocks {
			if len(c.Events) > 0 {
				set |= 1 << k
				events++
			}
		}
		orders := make([]lab.Order, 12)
		for i := range orders {
			orders[i] = anyOrder(r, len(s.World.Clocks))
		}
		l, x := must[*lab.Lab](t)(lab.New(s)), newSlow(s)
		for _, o := range orders {
			l.Act(o)
			x.act(o)
		}
		if !explains(len(s.World.Clocks), x.bounds(), set) {
			t.Fatal(s, set, x.bounds())
		}
		sets, e := l.Blame(min(5, events))
		if events <= 5 && (e != api.OK || len(sets[0]) > events) {
			t.Fatal(s, sets, e)
		}
		if e == api.OK && len(sets[0]) > 0 {
			blamed++
		}
	}
	if blamed < 50 {
		t.Error(blamed)
	}
}
