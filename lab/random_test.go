package lab_test

import (
	"fmt"
	"math/rand"
	"testing"

	"meridian/api"
	"meridian/code"
	"meridian/lab"
	"meridian/world"
)

// event says of which kind an order was, and what became of it.
type event struct {
	kind lab.Kind
	e    api.Errno
}

// P14.2, P14.3, P14.4, P14.5: labs of all kinds against slow ones, order by order.
func TestAgainstSlow(t *testing.T) {
	r := rand.New(rand.NewSource(1))
	seen, lost, gone := map[event]int{}, 0, 0
	for range 1000 {
		s := anySetup(r, 5)
		x := newSlow(s)
		l := must[*lab.Lab](t)(lab.New(s))
		for range 40 {
			o := anyOrder(r, len(s.World.Clocks))
			v, want := l.Act(o), x.act(o)
			seen[event{min(max(o.Kind, 0), 5), v.Error}]++
			lost += len(v.Row.Lost)
			if !same(v, want) {
				t.Fatal(s, x.done, o, v, want)
			}
			if r.Intn(8) == 0 {
				compare(t, l, x, r)
			}
		}
		reports, _ := l.Reports(0, 1, 1)
		for _, report := range reports {
			if report.Gone {
				gone++
			}
		}
	}
	for kind, errors := range map[lab.Kind][]api.Errno{
		0: {api.ErrCommand}, 5: {api.ErrCommand},
		lab.Enter: {api.OK, api.ErrClock, api.ErrArg, api.ErrStop, api.ErrEmpty, api.ErrLarge, api.ErrRange, api.ErrTwice},
		lab.Leave: {api.OK, api.ErrMember},
		lab.Tick:  {api.OK, api.ErrStop, api.ErrNone, api.ErrState},
		lab.Give:  {api.OK, api.ErrRange},
	} {
		for _, e := range errors {
			if seen[event{kind, e}] < 20 {
				t.Error("not seen", kind, e, seen)
			}
		}
	}
	if lost < 200 || gone < 50 {
		t.Error(lost, gone)
	}
}

// compare compares what there is to know of a lab with a slow one.
func compare(t *testing.T, l *lab.Lab, x *slow, r *rand.Rand) {
	t.Helper()
	check := func(name string, is, want any, e, f api.Errno) {
		if !same(is, want) || e != f {
			t.Fatal(name, fmt.Sprint(is), e, fmt.Sprint(want), f, x.Setup, x.done)
		}
	}
	now, e := l.Now()
	check("Now", now, x.second, e, api.OK)
	shows, e := l.Shows()
	want, f := x.shows()
	check("Shows", shows, want, e, f)
	bound, e := l.Bound()
	check("Bound", bound, x.bound(), e, api.OK)
	rows, e := l.Rows()
	check("Rows", rows, x.rows, e, api.OK)
	stamps, e := l.Stamps()
	given, f := x.chain.Stamps()
	check("Stamps", stamps, given, e, f)
	members, e := l.Members()
	entered, f := x.scale.Members()
	check("Members", members, entered, e, f)
	frame, e := l.Frame()
	bits, f := code.Frame(x.Table, x.Start+x.second)
	check("Frame", frame, bits, e, f)
	line, e := l.Line()
	text, f := code.Line(x.Table, x.Start+x.second)
	check("Line", line, text, e, f)
	packet, e := l.Packet()
	bytes, f := code.Pack(x.Table, x.Start+x.second, 0)
	check("Packet", packet, bytes, e, f)
	month, of, version := r.Intn(130)-5, r.Intn(14), r.Intn(1100)
	if r.Intn(3) > 0 {
		month, of, version = 119, 12, 1000
	}
	reports, e := l.Reports(month, of, version)
	list, f := x.reports(month, of, version)
	check("Reports", reports, list, e, f)
	most := r.Intn(8) - 1
	sets, e := l.Blame(most)
	least, f := x.blame(most)
	check("Blame", sets, least, e, f)
}

// P14.6: Run of some orders, and Act for each of the others, is Run of all.
func TestRunAndAct(t *testing.T) {
	r := rand.New(rand.NewSource(2))
	for range 300 {
		s := anySetup(r, 6)
		orders := make([]lab.Order, r.Intn(40))
		for i := range orders {
			orders[i] = anyOrder(r, len(s.World.Clocks))
		}
		l, events, e := lab.Run(s, orders)
		if e != api.OK || len(events) != len(orders) {
			t.Fatal(events, e)
		}
		n := r.Intn(len(orders) + 1)
		m, first, e := lab.Run(s, orders[:n])
		if e != api.OK {
			t.Fatal(e)
		}
		for _, o := range orders[n:] {
			first = append(first, m.Act(o))
		}
		if !same(first, events) || all(l) != all(m) {
			t.Fatal(n, first, events, all(l), all(m))
		}
	}
}

// P14.2: the draws of all kinds are those of the seed of the world; what is known does
// not depend on it.
func TestSeed(t *testing.T) {
	r := rand.New(rand.NewSource(3))
	shown, rows := map[int]bool{}, map[string]bool{}
	s := chapter(5000, 300)
	for i := range s.World.Clocks {
		s.World.Clocks[i].White, s.World.Clocks[i].Walk = 10000, 100
	}
	s.Counter.Jitter, s.Unit = 3000, 100000
	var bound api.Span
	for i := range 50 {
		s.World.Seed = r.Uint64()
		l := run(t, s, enter(1, 5), tick())
		shown[must[int](t)(l.Shows())] = true
		rows[fmt.Sprint(must[[]lab.Row](t)(l.Rows())[0].Spans)] = true
		b := must[api.Span](t)(l.Bound())
		if i > 0 && b != bound {
			t.Error(b, bound)
		}
		bound = b
	}
	reach := must[api.Span](t)(world.Reach(s.World, 0, 100))
	if len(shown) < 40 || len(rows) < 40 || bound.Hi-bound.Lo != reach.Hi-reach.Lo {
		t.Error(len(shown), len(rows), bound, reach)
	}
}
