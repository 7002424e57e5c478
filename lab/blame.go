package lab

import (
	"meridian/alarm"
	"meridian/api"
	"meridian/counter"
)

// accusation is the case of the present second: the clocks are its parts.
func (w *work) accusation() alarm.Case {
	n := len(w.World.Clocks)
	c := alarm.Case{Clocks: n, Parts: n}
	for a := range n {
		for b := a + 1; b < n; b++ {
			for _, s := range w.claims(a, b) {
				item := alarm.Item{Bound: counter.Bound{A: a, B: b, Span: s}, Parts: []int{a, b}}
				c.Items = append(c.Items, item)
			}
		}
	}
	return c
}

// claims are the spans in which the difference of clocks a and b is, if both are as
// they are known to be.
func (w *work) claims(a, b int) []api.Span {
	x, e := w.look(a, b)
	switch e {
	case api.OK:
		return []api.Span{x.span}
	case api.ErrEmpty:
		// One of them is not: the case says so by two spans of which just one can hold.
		prior := w.apart(a, b)
		return []api.Span{prior, {Lo: prior.Hi + 1, Hi: api.MaxPhase}}
	}
	return nil // one of them does not run, or two turns are possible
}
