package link

import (
	"iter"
	"slices"

	"meridian/api"
	"meridian/number"
)

// far is more than the links of a net can make of any difference.
const far = 1000000000000

// rule says that a number of a link is from least to most.
type rule struct {
	value       func(l Link) int
	least, most int
}

// rules are in the order in which they are asked: the one about two laboratories
// subtracts numbers that those before it have found to be allowed.
func rules(labs int) []rule {
	return []rule{
		{func(l Link) int { return l.A }, 0, labs - 1},
		{func(l Link) int { return l.B }, 0, labs - 1},
		{func(l Link) int { return max(l.A-l.B, l.B-l.A) }, 1, labs - 1},
		{func(l Link) int { return l.Diff }, -MaxDiff, MaxDiff},
		{func(l Link) int { return l.Bound }, 0, MaxDiff},
	}
}

func (l Link) isAllowed(labs int) bool {
	for _, r := range rules(labs) {
		if !number.Within(r.value(l), r.least, r.most) {
			return false
		}
	}
	return true
}

// table has a value for each pair of laboratories.
type table[T any] [][]T

func tabled[T any](labs int, of func(i, k int) T) table[T] {
	t := make(table[T], labs)
	for i := range t {
		for k := range labs {
			t[i] = append(t[i], of(i, k))
		}
	}
	return t
}

// along is the link of a step as one from where the step begins to where it
// ends: back it says the same of the opposite difference.
func (n Net) along(s Step) Link {
	l := n.Links[s.Link]
	if s.Back {
		return Link{A: l.B, B: l.A, Diff: -l.Diff, Bound: l.Bound}
	}
	return l
}

// steps yields both steps over each link, with the link along the step.
func (n Net) steps() iter.Seq2[Step, Link] {
	return func(yield func(Step, Link) bool) {
		for i := range n.Links {
			for _, s := range []Step{{Link: i}, {Link: i, Back: true}} {
				if !yield(s, n.along(s)) {
					return
				}
			}
		}
	}
}

func (n Net) isConnected() bool {
	reached := make([]bool, n.Labs)
	reached[0] = true
	for range n.Labs {
		for _, l := range n.steps() {
			reached[l.B] = reached[l.B] || reached[l.A]
		}
	}
	return !slices.Contains(reached, false)
}

func (n Net) isSolution(x []int) bool {
	for _, l := range n.Links {
		if !number.Within(x[l.A]-x[l.B]-l.Diff, -l.Bound, l.Bound) {
			return false
		}
	}
	return true
}

func (n Net) isCycle(l []Step) bool {
	for _, s := range l {
		if !number.IsIndex(s.Link, len(n.Links)) {
			return false
		}
	}
	for i, s := range l {
		next := l[(i+1)%len(l)]
		if n.along(s).B != n.along(next).A {
			return false
		}
	}
	return len(l) > 0
}

func (n Net) closure(l []Step) Closure {
	var c Closure
	for _, s := range l {
		k := n.along(s)
		c.Sum += k.Diff
		c.Budget += k.Bound
	}
	return c
}

// lower lowers the number of each laboratory that is above what a step from it
// allows, and notes the step. It returns the laboratory that it lowered last,
// and whether there is one.
func (n Net) lower(x []int, causes []Step) (int, bool) {
	last, some := 0, false
	for s, l := range n.steps() {
		most := x[l.B] + l.Diff + l.Bound
		if x[l.A] > most {
			x[l.A] = most
			causes[l.A] = s
			last, some = l.A, true
		}
	}
	return last, some
}

// broken looks for a solution, from 0 for all laboratories. If there is one, the
// last round of as many as there are laboratories lowers none; otherwise the
// steps that were noted lead into a cycle whose Sum is below the opposite of its
// Budget.
func (n Net) broken() []Step {
	x := make([]int, n.Labs)
	causes := make([]Step, n.Labs)
	at := 0
	for range n.Labs {
		last, some := n.lower(x, causes)
		if !some {
			return nil
		}
		at = last
	}
	end := func(lab int) int { return n.along(causes[lab]).B }
	for range n.Labs {
		at = end(at)
	}
	cycle := []Step{causes[at]}
	for lab := end(at); lab != at; lab = end(lab) {
		cycle = append(cycle, causes[lab])
	}
	return cycle
}

// greatest is the greatest solution with 0 for a laboratory, of a net that is
// connected and consistent.
func (n Net) greatest(lab int) []int {
	x := slices.Repeat([]int{far}, n.Labs)
	x[lab] = 0
	causes := make([]Step, n.Labs)
	for range n.Labs {
		n.lower(x, causes)
	}
	return x
}

// bounds holds the greatest difference of i and k against that of k and i.
func (n Net) bounds() table[api.Span] {
	most := make(table[int], n.Labs)
	for k := range most {
		most[k] = n.greatest(k)
	}
	return tabled(n.Labs, func(i, k int) api.Span {
		return api.Span{Lo: -most[i][k], Hi: most[k][i]}
	})
}
