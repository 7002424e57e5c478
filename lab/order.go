package lab

import (
	"iter"

	"meridian/api"
	"meridian/counter"
	"meridian/number"
	"meridian/scale"
	"meridian/world"
)

// nano is a nanosecond, in femtoseconds.
const nano = 1000000

// effect is what orders of a kind do.
type effect func(w *work, o Order) Event

func effects() map[Kind]effect {
	return map[Kind]effect{
		Enter: (*work).enter,
		Leave: (*work).leave,
		Tick:  (*work).tick,
		Give:  (*work).give,
	}
}

// act lets an order have its effect. An effect may change the state before it knows
// of all its errors, but the scale, the keeper and the chain only after the last one.
func (w *work) act(o Order) (v Event) {
	do, is := effects()[o.Kind]
	if !is {
		return Event{Error: api.ErrCommand}
	}
	before := w.state
	defer func() {
		if v.Error != api.OK {
			w.state = before
		}
	}()
	return do(w, o)
}

func (w *work) enter(o Order) Event {
	if !number.IsIndex(o.Clock, len(w.World.Clocks)) {
		return Event{Error: api.ErrClock}
	}
	if o.Clock == w.Master {
		return Event{Error: api.ErrArg}
	}
	x, e := w.look(o.Clock, w.Master)
	if e != api.OK {
		return Event{Error: e}
	}
	w.last[o.Clock] = x
	return Event{Error: w.paper.Enter(o.Clock, middle(x.span), 0, o.Count)}
}

func (w *work) leave(o Order) Event { return Event{Error: w.paper.Leave(o.Clock)} }

func (w *work) tick(Order) Event {
	w.second += w.Every
	// What cannot be shown is after the last second, or the master does not run.
	if _, e := w.shows(); e != api.OK {
		return Event{Error: e}
	}
	row, readings := w.measure()
	p, e := w.paper.Expect(readings)
	if e != api.OK {
		return Event{Error: e}
	}
	row.U, row.Error = p.U, p.U+w.stepped
	row.Rate, e = w.keeper.Drive(api.Span{Lo: row.Error, Hi: row.Error})
	if e != api.OK {
		return Event{Error: e}
	}
	// It has no error, as Expect has none.
	w.paper.Take(readings)
	w.stepped += row.Rate * w.Unit
	w.rows = append(w.rows, row)
	return Event{Row: row.copied()}
}

// measure measures the members, and returns what their row says of them and their
// readings.
func (w *work) measure() (Row, []scale.Reading) {
	row := Row{Second: w.second}
	var readings []scale.Reading
	for id, shown := range w.measured() {
		span, e := w.follow(id, shown)
		if e != api.OK {
			row.Lost = append(row.Lost, id)
			continue
		}
		w.last[id] = sight{w.second, shown, span}
		row.Ids = append(row.Ids, id)
		row.Spans = append(row.Spans, span)
		readings = append(readings, scale.Reading{Id: id, Diff: middle(span)})
	}
	return row, readings
}

// measured yields the members that run, each with what the counter shows for it.
func (w *work) measured() iter.Seq2[int, int] {
	return func(yield func(id, shown int) bool) {
		members, _ := w.paper.Members()
		for _, m := range members {
			shown, e := counter.Observe(w.Counter, w.World, m.Id, w.Master, w.second)
			if e == api.OK && !yield(m.Id, shown) {
				return
			}
		}
	}
}

func (w *work) give(o Order) Event {
	shows, e := w.shows()
	if e != api.OK {
		return Event{Error: e}
	}
	b := w.bound()
	reading := w.second*(world.Second/nano) + number.Floor(shows, nano)
	// As Lo is at most Hi, the end that is further from 0 is -Lo or Hi away from it.
	far := max(-b.Lo, b.Hi)
	s, e := w.chain.Give(o.Doc, reading, far/nano+1)
	return Event{Error: e, Stamp: s}
}
