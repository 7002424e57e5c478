package steer

import (
	"iter"

	"meridian/number"
)

// control is a law of control. A chart is one, too: it is meant for the states
// of the safe set.
type control struct {
	Plan
	numbers []int
}

// chart first takes all states to be safe, and in each round loses those from
// which no new rate is safe any more. The number of the round that loses a state
// is its escape.
func (p Plan) chart() control {
	c := control{p, make([]int, p.size())}
rounds:
	for n := Escape + 1; ; n++ {
		switch lost := c.renew(); {
		case len(lost) == 0:
			break rounds
		default:
			for _, i := range lost {
				c.numbers[i] = n
			}
		}
	}
	return c
}

// renew gives each state for which the law is meant the new rate to take, and
// returns the indices of those that have none. They stay as they are: what a
// round finds must not depend on the order of the states.
func (l control) renew() []int {
	var lost []int
	for i, s := range l.meant() {
		if q, is := best(l.held(s), magnitude); is {
			l.numbers[i] = q
		} else {
			lost = append(lost, i)
		}
	}
	return lost
}

// isProved reports whether a law that is as long as a chart is proved.
func (l control) isProved() bool {
	for i, s := range l.meant() {
		q := l.numbers[i]
		if !l.allows(s, q) || !l.holds(s)(q) {
			return false
		}
	}
	return true
}

// at is the number of a state. One beyond Limit has the escape 0.
func (l control) at(s Entry) int {
	if !l.has(s) {
		return Escape
	}
	return l.numbers[l.index(s)]
}

func (l control) isMeantFor(s Entry) bool { return l.at(s) < Escape }

// meant yields the states for which the law is meant, with their indices.
func (l control) meant() iter.Seq2[int, Entry] {
	return func(yield func(int, Entry) bool) {
		for i, s := range l.states() {
			if l.numbers[i] < Escape && !yield(i, s) {
				return
			}
		}
	}
}

// held yields the new rates that can be taken in a state and that hold there,
// from the least one on.
func (l control) held(s Entry) iter.Seq[int] {
	return func(yield func(int) bool) {
		holds := l.holds(s)
		for q := range l.rates(s) {
			if holds(q) && !yield(q) {
				return
			}
		}
	}
}

// holds tells of new rates whether with them each disturbance leads to a state
// for which the law is meant.
func (l control) holds(s Entry) func(q int) bool {
	return func(q int) bool {
		for range l.threats(s, q) {
			return false
		}
		return true
	}
}

// threats yields the disturbances, from the least one on, that lead beyond
// Limit or to a state for which the law is not meant.
func (l control) threats(s Entry, q int) iter.Seq[int] {
	return func(yield func(int) bool) {
		for d, next := range l.next(s, q) {
			if !l.isMeantFor(next) && !yield(d) {
				return
			}
		}
	}
}

// worst is the disturbance that leads beyond Limit the soonest.
func (l control) worst(s Entry, q int) int {
	d, _ := best(l.threats(s, q), func(d int) int { return l.at(s.after(q, d)) })
	return d
}

// size is that of a plan's charts.
func (p Plan) size() int { return (2*p.Limit + 1) * (2*p.Rate + 1) }

func (p Plan) index(s Entry) int {
	return (s.Error+p.Limit)*(2*p.Rate+1) + s.Rate + p.Rate
}

func (p Plan) has(s Entry) bool {
	return number.Within(s.Error, -p.Limit, p.Limit) && number.Within(s.Rate, -p.Rate, p.Rate)
}

// allows reports whether a new rate can be taken in a state.
func (p Plan) allows(s Entry, q int) bool {
	return number.Within(q, max(-p.Rate, s.Rate-p.Slew), min(p.Rate, s.Rate+p.Slew))
}

// states yields all states in the order of a chart, with their indices.
func (p Plan) states() iter.Seq2[int, Entry] {
	return func(yield func(int, Entry) bool) {
		i := 0
		for e := -p.Limit; e <= p.Limit; e++ {
			for r := -p.Rate; r <= p.Rate; r++ {
				if !yield(i, Entry{e, r}) {
					return
				}
				i++
			}
		}
	}
}

// rates yields the new rates that can be taken in a state, from the least one
// on.
func (p Plan) rates(s Entry) iter.Seq[int] {
	return func(yield func(int) bool) {
		for q := -p.Rate; q <= p.Rate; q++ {
			if p.allows(s, q) && !yield(q) {
				return
			}
		}
	}
}

// next yields each disturbance, from the least one on, and where it leads with
// a new rate: to a state, or to an error beyond Limit.
func (p Plan) next(s Entry, q int) iter.Seq2[int, Entry] {
	return func(yield func(int, Entry) bool) {
		for d := -p.Noise; d <= p.Noise; d++ {
			if !yield(d, s.after(q, d)) {
				return
			}
		}
	}
}

// after is where a new rate and a disturbance lead.
func (s Entry) after(q, d int) Entry { return Entry{s.Error + q + d, q} }

// best is the first element whose cost is the least, if there is an element.
func best[T any](l iter.Seq[T], cost func(T) int) (T, bool) {
	var found T
	least, is := 0, false
	for x := range l {
		if c := cost(x); !is || c < least {
			found, least, is = x, c, true
		}
	}
	return found, is
}

// magnitude is how far a number is from 0.
func magnitude(n int) int { return max(n, -n) }
