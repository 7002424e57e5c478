package lab_test

import (
	"fmt"
	"math"
	"math/rand"
	"slices"
	"testing"

	"meridian/api"
	"meridian/calendar"
	"meridian/circular"
	"meridian/counter"
	"meridian/lab"
	"meridian/scale"
	"meridian/stamp"
	"meridian/steer"
	"meridian/world"
)

// far are numbers that are allowed nowhere but in a Doc or a Key.
var far = []int{math.MinInt, math.MinInt + 1, -1 << 62, -2000000000000000, 2000000000000000, 1 << 62, math.MaxInt - 1, math.MaxInt}

// must is what a call returned that has to have no error.
func must[T any](t *testing.T) func(x T, e api.Errno) T {
	return func(x T, e api.Errno) T {
		t.Helper()
		if e != api.OK {
			t.Fatal(x, e)
		}
		return x
	}
}

func span(lo, hi int) api.Span { return api.Span{Lo: lo, Hi: hi} }

// same reports whether two values are the same; a nil list is an empty one.
func same(x, y any) bool { return fmt.Sprint(x) == fmt.Sprint(y) }

func enter(clock, memory int) lab.Order {
	return lab.Order{Kind: lab.Enter, Clock: clock, Count: memory}
}

func leave(clock int) lab.Order { return lab.Order{Kind: lab.Leave, Clock: clock} }

func tick() lab.Order { return lab.Order{Kind: lab.Tick} }

func give(doc uint64) lab.Order { return lab.Order{Kind: lab.Give, Doc: doc} }

// chapter is the setup of the chapter's examples: two masers without noise, of which
// the second one has a phase and the first one, the master, a rate.
func chapter(phase, rate int) lab.Setup {
	return lab.Setup{
		World:   world.World{Chambers: []world.Chamber{{Period: 2}}, Clocks: []world.Clock{{Kind: world.Maser, Rate: rate}, {Kind: world.Maser, Phase: phase}}},
		Counter: counter.Counter{Factor: 1, Grid: 2, Range: 400000000000000, Dead: 1},
		Every:   100,
		Scale:   scale.Setup{Cap: 1000000, Gate: 100000000000, Keep: 5},
		Plan:    steer.Plan{Limit: 4, Rate: 1, Slew: 2, Noise: 1},
		Unit:    1000,
		Table:   calendar.Table{Base: 10, Leaps: []calendar.Leap{{Day: 41498, Step: 1}}, Until: 41600},
		Key:     5,
	}
}

// run makes a lab and lets it have orders that have to have no error.
func run(t *testing.T, s lab.Setup, orders ...lab.Order) *lab.Lab {
	t.Helper()
	l, events, e := lab.Run(s, orders)
	if e != api.OK || len(events) != len(orders) {
		t.Fatal(events, e)
	}
	for i, v := range events {
		if v.Error != api.OK {
			t.Fatal(i, v)
		}
	}
	return l
}

// all is what there is to know of a lab.
func all(l *lab.Lab) string {
	text := ""
	add := func(x any, e api.Errno) { text += fmt.Sprintln(x, e) }
	now, e := l.Now()
	add(now, e)
	rows, e := l.Rows()
	add(rows, e)
	stamps, e := l.Stamps()
	add(stamps, e)
	members, e := l.Members()
	add(members, e)
	shows, e := l.Shows()
	add(shows, e)
	bound, e := l.Bound()
	add(bound, e)
	frame, e := l.Frame()
	add(frame, e)
	line, e := l.Line()
	add(line, e)
	packet, e := l.Packet()
	add(packet, e)
	reports, e := l.Reports(7, 3, 2)
	add(reports, e)
	sets, e := l.Blame(5)
	add(sets, e)
	return text
}

// slow is a lab by the chapter's words. It keeps the orders that had no error, and
// begins anew with them when one has to be undone.
type slow struct {
	lab.Setup
	known   world.World
	second  int
	scale   *scale.Scale
	keeper  *steer.Keeper
	stepped int
	chain   *stamp.Chain
	rows    []lab.Row
	spans   map[int]api.Span // the last one of each member
	seconds map[int]int      // of these spans
	done    []lab.Order
}

func newSlow(s lab.Setup) *slow {
	phase := s.World.Clocks[s.Master].Phase
	x := &slow{Setup: s, known: s.World, stepped: -phase, chain: stamp.New(s.Key), spans: map[int]api.Span{}, seconds: map[int]int{}}
	x.known.Clocks = nil
	for _, c := range s.World.Clocks {
		c.Events = nil
		x.known.Clocks = append(x.known.Clocks, c)
	}
	var e, f api.Errno
	x.scale, e = scale.New(s.Scale, phase)
	x.keeper, f = steer.NewKeeper(s.Plan, s.Unit, 0)
	if e != api.OK || f != api.OK {
		panic(fmt.Sprint(s, e, f))
	}
	return x
}

func (x *slow) act(o lab.Order) lab.Event {
	v := lab.Event{Error: api.ErrCommand}
	switch o.Kind {
	case 1:
		v = lab.Event{Error: x.enter(o.Clock, o.Count)}
	case 2:
		v = lab.Event{Error: x.scale.Leave(o.Clock)}
	case 3:
		v.Row, v.Error = x.tick()
	case 4:
		v.Stamp, v.Error = x.give(o.Doc)
	}
	if v.Error == api.OK {
		x.done = append(x.done, o)
		return v
	}
	again := newSlow(x.Setup)
	for _, o := range x.done {
		again.act(o)
	}
	*x = *again
	return lab.Event{Error: v.Error}
}

func (x *slow) enter(clock, count int) api.Errno {
	if clock < 0 || clock >= len(x.World.Clocks) {
		return api.ErrClock
	}
	if clock == x.Master {
		return api.ErrArg
	}
	shown, e := counter.Observe(x.Counter, x.World, clock, x.Master, x.second)
	if e != api.OK {
		return e
	}
	s, e := counter.Resolve(x.Counter, shown, x.difference(clock, x.Master))
	if e != api.OK {
		return e
	}
	x.spans[clock], x.seconds[clock] = s, x.second
	return x.scale.Enter(clock, half(s.Lo+s.Hi), 0, count)
}

func (x *slow) tick() (lab.Row, api.Errno) {
	x.second += x.Every
	if x.second > 1000000 {
		return lab.Row{}, api.ErrTime
	}
	if !x.runs(x.Master) {
		return lab.Row{}, api.ErrStop
	}
	row := lab.Row{Second: x.second}
	var readings []scale.Reading
	members, _ := x.scale.Members()
	for _, m := range members {
		if !x.runs(m.Id) {
			continue
		}
		shown, e := counter.Observe(x.Counter, x.World, m.Id, x.Master, x.second)
		if e != api.OK {
			panic(e)
		}
		s, e := counter.Resolve(x.Counter, shown, x.wider(m.Id))
		if e != api.OK {
			row.Lost = append(row.Lost, m.Id)
			continue
		}
		x.spans[m.Id], x.seconds[m.Id] = s, x.second
		row.Ids, row.Spans = append(row.Ids, m.Id), append(row.Spans, s)
		readings = append(readings, scale.Reading{Id: m.Id, Diff: half(s.Lo + s.Hi)})
	}
	p, e := x.scale.Take(readings)
	if e != api.OK {
		return lab.Row{}, e
	}
	row.U, row.Error = p.U, p.U+x.stepped
	row.Rate, e = x.keeper.Drive(span(row.Error, row.Error))
	x.stepped += row.Rate * x.Unit
	x.rows = append(x.rows, row)
	return row, e
}

func (x *slow) give(doc uint64) (stamp.Stamp, api.Errno) {
	shows, e := x.shows()
	if e != api.OK {
		return stamp.Stamp{}, e
	}
	b := x.bound()
	far := max(max(b.Lo, -b.Lo), max(b.Hi, -b.Hi))
	return x.chain.Give(doc, x.second*1000000000+below(shows, 1000000), below(far, 1000000)+1)
}

func (x *slow) shows() (int, api.Errno) {
	if !x.runs(x.Master) {
		return 0, api.ErrStop
	}
	n, e := world.Shown(x.World, x.Master, x.second)
	return n + x.stepped, e
}

func (x *slow) bound() api.Span {
	r := x.reach(x.Master)
	return span(r.Lo+x.stepped, r.Hi+x.stepped)
}

func (x *slow) runs(k int) bool {
	is, _ := world.Runs(x.World, k, x.second)
	return is
}

func (x *slow) reach(k int) api.Span {
	r, e := world.Reach(x.known, k, x.second)
	if e != api.OK {
		panic(e)
	}
	return r
}

func (x *slow) difference(a, b int) api.Span {
	r, s := x.reach(a), x.reach(b)
	return span(r.Lo-s.Hi, r.Hi-s.Lo)
}

// wider is the prior of a member at the present second.
func (x *slow) wider(k int) api.Span {
	up, e := world.Growth(x.known, k, x.seconds[k], x.second)
	down, f := world.Growth(x.known, x.Master, x.seconds[k], x.second)
	if e != api.OK || f != api.OK {
		panic(fmt.Sprint(e, f))
	}
	noise := 2 * (x.World.Clocks[k].White + x.World.Clocks[x.Master].White)
	s := x.spans[k]
	return span(max(-1000000000000000, s.Lo+up.Lo-down.Hi-noise), min(1000000000000000, s.Hi+up.Hi-down.Lo+noise))
}

func (x *slow) reports(month, of, version int) ([]circular.Report, api.Errno) {
	if month < 0 || month > 119 || of < 1 || of > 12 || version < 1 || version > 1000 {
		return nil, api.ErrLab
	}
	if len(x.rows) == 0 {
		return nil, api.ErrNone
	}
	var l []circular.Report
	for k := range 16 {
		is := false
		for _, row := range x.rows {
			is = is || slices.Contains(row.Ids, k)
		}
		if !is {
			continue
		}
		r := circular.Report{Lab: of, Month: month, Clock: k, Version: version, Diffs: x.diffs(k)}
		r.Gone = len(r.Diffs) == 0
		for _, d := range r.Diffs {
			if d < -1000000000 || d > 1000000000 {
				return nil, api.ErrLab
			}
		}
		l = append(l, r)
	}
	return l, api.OK
}

func (x *slow) diffs(k int) []int {
	var l []int
	i := max(0, len(x.rows)-12)
	for i < len(x.rows) && !slices.Contains(x.rows[i].Ids, k) {
		i++
	}
	for i < len(x.rows) && slices.Contains(x.rows[i].Ids, k) {
		s := x.rows[i].Spans[slices.Index(x.rows[i].Ids, k)]
		l = append(l, half(s.Lo+s.Hi))
		i++
	}
	return l
}

// bounds are the items of the case of the present second: all of a pair rest on both
// of its clocks.
func (x *slow) bounds() []counter.Bound {
	var l []counter.Bound
	for a := range x.World.Clocks {
		for b := range x.World.Clocks {
			if a >= b || !x.runs(a) || !x.runs(b) {
				continue
			}
			shown, e := counter.Observe(x.Counter, x.World, a, b, x.second)
			if e != api.OK {
				panic(e)
			}
			prior := x.difference(a, b)
			s, e := counter.Resolve(x.Counter, shown, prior)
			if e == api.OK {
				l = append(l, counter.Bound{A: a, B: b, Span: s})
			} else if e == api.ErrEmpty {
				l = append(l, counter.Bound{A: a, B: b, Span: prior}, counter.Bound{A: a, B: b, Span: span(prior.Hi+1, 1000000000000000)})
			}
		}
	}
	return l
}

// explains reports whether the clocks whose bits are set explain bounds.
func explains(clocks int, l []counter.Bound, set int) bool {
	var stand []counter.Bound
	for _, b := range l {
		if set>>b.A&1 == 0 && set>>b.B&1 == 0 {
			stand = append(stand, b)
		}
	}
	_, e := counter.Narrow(clocks, stand)
	return e == api.OK
}

// blame goes through all sets of clocks.
func (x *slow) blame(most int) ([][]int, api.Errno) {
	if most < 0 || most > 5 {
		return nil, api.ErrArg
	}
	n, bounds := len(x.World.Clocks), x.bounds()
	var l [][]int
	for set := range 1 << n {
		var clocks []int
		for k := range n {
			if set>>k&1 == 1 {
				clocks = append(clocks, k)
			}
		}
		if explains(n, bounds, set) && (len(l) == 0 || len(clocks) <= len(l[0])) {
			if len(l) > 0 && len(clocks) < len(l[0]) {
				l = nil
			}
			l = append(l, clocks)
		}
	}
	if len(l[0]) > most {
		return nil, api.ErrLarge
	}
	slices.SortFunc(l, slices.Compare)
	return l, api.OK
}

// half is n / 2, towards 0.
func half(n int) int {
	if n < 0 {
		return -(-n >> 1)
	}
	return n >> 1
}

// below is n / by, towards the lesser number.
func below(n, by int) int {
	q := n / by
	for q*by > n {
		q--
	}
	return q
}

// around is any number from -most to most, its size of any order.
func around(r *rand.Rand, most int) int {
	n := r.Intn(1 + int(math.Pow(float64(most), r.Float64())))
	return n * (1 - 2*r.Intn(2))
}

func anyClock(r *rand.Rand, wild bool) world.Clock {
	c := world.Clock{Kind: world.Tube, Rate: around(r, 100000), Drift: around(r, 1000), White: r.Intn(1 + r.Intn(300)), Walk: r.Intn(1 + r.Intn(30)), Chamber: r.Intn(2)}
	if r.Intn(2) == 0 {
		c.Phase = around(r, 1000000)
	}
	if r.Intn(3) == 0 {
		c.Heat = around(r, 20)
	}
	if !wild {
		return c
	}
	at := 0
	for range r.Intn(4) {
		at += 1 + r.Intn(2000)
		what := world.What(1 + r.Intn(4))
		size := around(r, 100000)
		if what == world.Kick {
			size *= 10
		}
		if what == world.Stop || what == world.Start {
			size = 0
		}
		c.Events = append(c.Events, world.Event{What: what, At: at, Size: size})
	}
	return c
}

// anySetup has up to most clocks. Of all things in it some make orders have errors.
func anySetup(r *rand.Rand, most int) lab.Setup {
	dead, grid := 1+r.Intn(5), 1+r.Intn(40)
	s := lab.Setup{
		World:   world.World{Seed: r.Uint64(), Chambers: []world.Chamber{{Period: 2}, {Base: 20000, Swing: 50, Period: 5000}}},
		Counter: counter.Counter{Factor: 1 + r.Intn(3), Offset: around(r, 2000), Jitter: r.Intn(40), Grid: grid, Dead: dead, Id: r.Intn(100)},
		Every:   dead * (1 + r.Intn(120)),
		Scale:   scale.Setup{Cap: 200000 + r.Intn(800001), Gate: 1 + r.Intn(100000), Wait: r.Intn(3), Keep: 1 + r.Intn(8)},
		Unit:    100 + r.Intn(100000),
		Table:   calendar.Table{Base: r.Intn(30), Leaps: []calendar.Leap{{Day: 41498, Step: 1 - 2*r.Intn(2)}}, Until: 41500},
		Start:   15724800 - r.Intn(6000),
		Key:     r.Uint64(),
	}
	s.Counter.Range = 2 * grid * (1 + r.Intn(1+int(math.Pow(10, 1+7*r.Float64()))))
	n := 2 + r.Intn(most-1)
	for range n {
		s.World.Clocks = append(s.World.Clocks, anyClock(r, r.Intn(3) == 0))
	}
	s.Master = r.Intn(n)
	plans := []steer.Plan{{Limit: 4, Rate: 1, Slew: 2, Noise: 1}, {Limit: 10, Rate: 3, Slew: 6, Noise: 2}, {Limit: 12, Rate: 4, Slew: 2, Noise: 1}, {Limit: 20, Rate: 2, Slew: 4}}
	s.Plan = plans[r.Intn(len(plans))]
	return s
}

// anyOrder is mostly one that can be without an error.
func anyOrder(r *rand.Rand, clocks int) lab.Order {
	o := lab.Order{Kind: lab.Tick, Clock: r.Intn(clocks), Count: 1 + r.Intn(1000), Doc: r.Uint64()}
	switch n := r.Intn(100); {
	case n < 25:
		o.Kind = lab.Enter
	case n < 30:
		o.Kind = lab.Leave
	case n < 45:
		o.Kind = lab.Give
	case n < 47:
		o.Kind = lab.Kind(around(r, 9))
	}
	if r.Intn(30) == 0 {
		o.Clock = around(r, 20)
	}
	if r.Intn(30) == 0 {
		o.Count = around(r, 2000)
	}
	return o
}
