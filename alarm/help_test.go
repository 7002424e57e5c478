package alarm_test

import (
	"math"
	"math/rand"
	"slices"
	"testing"

	"meridian/alarm"
	"meridian/api"
	"meridian/counter"
)

// phase is the greatest number of a bound.
const phase = 1000000000000000

// far are numbers that are allowed nowhere.
var far = []int{math.MinInt, math.MinInt + 1, -1 << 62, -1000001, 1000001, 1 << 32, 1 << 62, math.MaxInt - 1, math.MaxInt}

// must is what a call returned that has to have no error.
func must[T any](t *testing.T) func(x T, e api.Errno) T {
	return func(x T, e api.Errno) T {
		t.Helper()
		if e != api.OK {
			t.Fatal(x, e)
		}
		return x
	}
}

func span(lo, hi int) api.Span { return api.Span{Lo: lo, Hi: hi} }

func item(a, b, lo, hi int, parts ...int) alarm.Item {
	return alarm.Item{Bound: counter.Bound{A: a, B: b, Span: span(lo, hi)}, Parts: parts}
}

func up(item int) counter.Use   { return counter.Use{Bound: item, Up: true} }
func down(item int) counter.Use { return counter.Use{Bound: item} }

// triangle is the case of the chapter's examples, with so many items.
func triangle(n int) alarm.Case {
	all := []alarm.Item{item(0, 1, 1, 3, 0), item(1, 2, 1, 3, 1), item(0, 2, 7, 9, 2), item(0, 1, 1, 3, 3), item(0, 2, 7, 9, 4)}
	return alarm.Case{Clocks: 3, Parts: 5, Items: all[:n]}
}

// row has two clocks, and an item for each list of parts: those of any two of them
// contradict one another.
func row(parts int, l ...[]int) alarm.Case {
	c := alarm.Case{Clocks: 2, Parts: parts}
	for i, rests := range l {
		c.Items = append(c.Items, item(0, 1, 10*i, 10*i+1, rests...))
	}
	return c
}

// same reports whether two lists of lists are the same.
func same[T comparable](a, b [][]T) bool { return slices.EqualFunc(a, b, slices.Equal) }

// copyOf is a case that shares no memory with c.
func copyOf(c alarm.Case) alarm.Case {
	c.Items = slices.Clone(c.Items)
	for i := range c.Items {
		c.Items[i].Parts = slices.Clone(c.Items[i].Parts)
	}
	return c
}

// all has so many parts.
func all(parts int) []int {
	var l []int
	for part := range parts {
		l = append(l, part)
	}
	return l
}

// subsets are the sets of at most most parts: those with fewer parts first, those
// with equally many in lexicographic order.
func subsets(parts, most int) [][]int {
	l := [][]int{nil}
	for i := 0; i < len(l); i++ {
		next := 0
		if n := len(l[i]); n > 0 {
			next = l[i][n-1] + 1
		}
		for part := next; part < parts && len(l[i]) < most; part++ {
			l = append(l, append(slices.Clone(l[i]), part))
		}
	}
	return l
}

func meet(a, b []int) bool {
	return slices.ContainsFunc(a, func(x int) bool { return slices.Contains(b, x) })
}

// standing are the bounds of the items that stand without a set.
func standing(c alarm.Case, set []int) []counter.Bound {
	var l []counter.Bound
	for _, x := range c.Items {
		if !meet(x.Parts, set) {
			l = append(l, x.Bound)
		}
	}
	return l
}

// fit reports whether the numbers of the first clocks are in all spans.
func fit(l []counter.Bound, numbers []int) bool {
	for _, b := range l {
		if max(b.A, b.B) < len(numbers) {
			if d := numbers[b.A] - numbers[b.B]; d < b.Span.Lo || d > b.Span.Hi {
				return false
			}
		}
	}
	return true
}

// goesOn reports whether the numbers of the first clocks can be made a solution
// with numbers from -most to most for the other ones.
func goesOn(clocks int, l []counter.Bound, numbers []int, most int) bool {
	if len(numbers) == clocks {
		return true
	}
	for n := -most; n <= most; n++ {
		next := append(slices.Clone(numbers), n)
		if fit(l, next) && goesOn(clocks, l, next, most) {
			return true
		}
	}
	return false
}

// slowExplains tries all numbers. It is for cases whose bounds have numbers from -4
// to 4: a solution, if there is one, can be moved to where no number is further from
// 0 than 4 times the number of clocks.
func slowExplains(c alarm.Case, set []int) bool {
	return goesOn(c.Clocks, standing(c, set), nil, 4*c.Clocks)
}

// fastExplains is for cases of all sizes: by the shortest ways between clocks.
func fastExplains(c alarm.Case, set []int) bool {
	const open = 1 << 60
	var d [16][16]int
	for a := range d {
		for b := range d {
			if a != b {
				d[a][b] = open
			}
		}
	}
	for _, b := range standing(c, set) {
		d[b.A][b.B] = min(d[b.A][b.B], b.Span.Hi)
		d[b.B][b.A] = min(d[b.B][b.A], -b.Span.Lo)
	}
	for via := range c.Clocks {
		for a := range c.Clocks {
			for b := range c.Clocks {
				if d[a][via] < open && d[via][b] < open {
					d[a][b] = max(min(d[a][b], d[a][via]+d[via][b]), -open/4)
				}
			}
		}
	}
	for a := range c.Clocks {
		if d[a][a] < 0 {
			return false
		}
	}
	return true
}

// slowLeast has all least sets of at most so many parts, or none; explains tells
// which sets explain the case.
func slowLeast(c alarm.Case, most int, explains func(alarm.Case, []int) bool) [][]int {
	var l [][]int
	for _, set := range subsets(c.Parts, most) {
		if len(l) > 0 && len(set) > len(l[0]) {
			break
		}
		if explains(c, set) {
			l = append(l, set)
		}
	}
	return l
}

// says is what a use says: the first clock less the second one is at most most.
func says(c alarm.Case, u counter.Use) (first, second, most int) {
	b := c.Items[u.Bound].Bound
	if u.Up {
		return b.A, b.B, b.Span.Hi
	}
	return b.B, b.A, -b.Span.Lo
}

// isConflict follows the chapter's words.
func isConflict(c alarm.Case, l []counter.Use) bool {
	sum := 0
	for i, u := range l {
		if u.Bound < 0 || u.Bound >= len(c.Items) {
			return false
		}
		if next := l[(i+1)%len(l)]; next.Bound >= 0 && next.Bound < len(c.Items) {
			_, second, most := says(c, u)
			if first, _, _ := says(c, next); first != second {
				return false
			}
			sum += most
		}
	}
	return len(l) > 0 && sum < 0
}

// hits reports whether a set hits a conflict.
func hits(c alarm.Case, set []int, l []counter.Use) bool {
	return slices.ContainsFunc(l, func(u counter.Use) bool { return meet(c.Items[u.Bound].Parts, set) })
}

// slowVerify follows the chapter's words, for a set of at most 5 parts and lists of
// at most 240 uses.
func slowVerify(c alarm.Case, set []int, proof [][]counter.Use) api.Errno {
	if !fastExplains(c, set) {
		return api.ErrFalse
	}
	for _, l := range proof {
		if !isConflict(c, l) {
			return api.ErrFalse
		}
	}
	if len(set) == 0 {
		return api.OK
	}
	for _, other := range subsets(c.Parts, len(set)-1) {
		if !slices.ContainsFunc(proof, func(l []counter.Use) bool { return !hits(c, other, l) }) {
			return api.ErrFalse
		}
	}
	return api.OK
}

// conflicts are all those that come to no clock twice.
func conflicts(c alarm.Case) [][]counter.Use {
	var found [][]counter.Use
	var extend func(l []counter.Use, seen []int)
	extend = func(l []counter.Use, seen []int) {
		if isConflict(c, l) {
			found = append(found, l)
		}
		for i := range c.Items {
			for _, u := range []counter.Use{up(i), down(i)} {
				first, _, _ := says(c, u)
				if len(l) > 0 {
					if _, second, _ := says(c, l[len(l)-1]); first != second {
						continue
					}
				}
				if !slices.Contains(seen, first) {
					extend(append(slices.Clone(l), u), append(slices.Clone(seen), first))
				}
			}
		}
	}
	extend(nil, nil)
	return found
}

// anyParts are at most most of so many parts.
func anyParts(r *rand.Rand, parts, most int) []int {
	l := r.Perm(parts)[:r.Intn(min(parts, most)+1)]
	slices.Sort(l)
	return l
}

// anyItem is of any two clocks, with numbers from -4 to 4.
func anyItem(r *rand.Rand, clocks, parts, rests int) alarm.Item {
	l := r.Perm(clocks)
	lo := r.Intn(9) - 4
	return item(l[0], l[1], lo, lo+r.Intn(min(3, 5-lo)), anyParts(r, parts, rests)...)
}

func anyCase(r *rand.Rand, clocks, parts, items, rests int) alarm.Case {
	c := alarm.Case{Clocks: clocks, Parts: parts}
	for range items {
		c.Items = append(c.Items, anyItem(r, clocks, parts, rests))
	}
	return c
}

// smallCase is one for which all numbers can be tried.
func smallCase(r *rand.Rand) alarm.Case {
	return anyCase(r, 2+r.Intn(2), r.Intn(6), r.Intn(9), 1+r.Intn(3))
}

// planted has items that are right, but for those that rest on the bad parts, which
// may have any numbers. Each item rests on from 1 to rests parts.
func planted(r *rand.Rand, clocks, parts, items, rests int, bad []int) alarm.Case {
	c := alarm.Case{Clocks: clocks, Parts: parts}
	numbers := make([]int, clocks)
	for i := range numbers {
		numbers[i] = r.Intn(1000)
	}
	for range items {
		l := r.Perm(clocks)
		parts := r.Perm(parts)[:1+r.Intn(rests)]
		slices.Sort(parts)
		d := numbers[l[0]] - numbers[l[1]]
		if meet(parts, bad) {
			d += r.Intn(2001) - 1000
		}
		c.Items = append(c.Items, item(l[0], l[1], d-r.Intn(10), d+r.Intn(10), parts...))
	}
	return c
}
