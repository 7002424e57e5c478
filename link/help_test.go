package link_test

import (
	"math/big"
	"math/rand"
	"slices"
	"testing"

	"meridian/api"
	"meridian/link"
)

// time and diff are the limits of what is measured, and of what a link says.
const (
	time = 1000000000000
	diff = 1000000000
)

func ratio(n, d int) api.Ratio { return api.Ratio{N: n, D: d} }

func span(lo, hi int) api.Span { return api.Span{Lo: lo, Hi: hi} }

// equal reports whether r is want, in lowest terms, as numbers of big are.
func equal(r api.Ratio, want *big.Rat) bool {
	return want.Num().Cmp(big.NewInt(int64(r.N))) == 0 && want.Denom().Cmp(big.NewInt(int64(r.D))) == 0
}

// around is a number from -size to size.
func around(r *rand.Rand, size int) int { return r.Intn(2*size+1) - size }

// three is the net of the chapter's example 3, with the Bound of its last link.
func three(bound int) link.Net {
	return net(3, link.Link{A: 0, B: 1, Diff: 10, Bound: 2}, link.Link{A: 1, B: 2, Diff: 5, Bound: 1}, link.Link{A: 0, B: 2, Diff: 20, Bound: bound})
}

func net(labs int, l ...link.Link) link.Net { return link.Net{Labs: labs, Links: l} }

// steps are some over the links 1, 2 and so on, back if the number is below 0.
func steps(numbers ...int) []link.Step {
	var l []link.Step
	for _, n := range numbers {
		l = append(l, link.Step{Link: max(n, -n) - 1, Back: n < 0})
	}
	return l
}

// anyNet has count links, if there are two laboratories, between any of them.
func anyNet(r *rand.Rand, labs, count, size, width, wrong int) link.Net {
	if labs == 1 {
		return net(1)
	}
	var pairs [][2]int
	for range count {
		a := r.Intn(labs)
		pairs = append(pairs, [2]int{a, (a + 1 + r.Intn(labs-1)) % labs})
	}
	return linked(r, labs, pairs, size, width, wrong)
}

// joined is a net that is connected, with extra links more than it needs.
func joined(r *rand.Rand, labs, extra, size, width, wrong int) link.Net {
	var pairs [][2]int
	for k := 1; k < labs; k++ {
		pairs = append(pairs, [2]int{k, r.Intn(k)})
	}
	for _, l := range anyNet(r, labs, extra, 1, 0, 0).Links {
		pairs = append(pairs, [2]int{l.A, l.B})
	}
	at := r.Perm(labs)
	for i := range pairs {
		pairs[i] = [2]int{at[pairs[i][i%2]], at[pairs[i][1-i%2]]}
	}
	r.Shuffle(len(pairs), func(i, k int) { pairs[i], pairs[k] = pairs[k], pairs[i] })
	return linked(r, labs, pairs, size, width, wrong)
}

// linked has a link for each pair, about numbers that the laboratories may have,
// with a Bound up to width; each Diff is wrong with a chance of one in wrong.
func linked(r *rand.Rand, labs int, pairs [][2]int, size, width, wrong int) link.Net {
	x := make([]int, labs)
	for i := range x {
		x[i] = r.Intn(size)
	}
	n := link.Net{Labs: labs}
	for _, p := range pairs {
		bound := r.Intn(width + 1)
		d := x[p[0]] - x[p[1]] + around(r, bound)
		if wrong > 0 && r.Intn(wrong) == 0 {
			d += around(r, size)
		}
		n.Links = append(n.Links, link.Link{A: p[0], B: p[1], Diff: min(max(d, -diff), diff), Bound: bound})
	}
	return n
}

// ends are where a step begins and ends.
func ends(n link.Net, s link.Step) (int, int) {
	l := n.Links[s.Link]
	if s.Back {
		return l.B, l.A
	}
	return l.A, l.B
}

// isCycle, sums and isBroken follow the chapter's words for cycles.
func isCycle(n link.Net, l []link.Step) bool {
	if len(l) == 0 {
		return false
	}
	_, at := ends(n, l[len(l)-1])
	for _, s := range l {
		from, to := ends(n, s)
		if from != at {
			return false
		}
		at = to
	}
	return true
}

func sums(n link.Net, l []link.Step) link.Closure {
	var c link.Closure
	for _, s := range l {
		if s.Back {
			c.Sum -= n.Links[s.Link].Diff
		} else {
			c.Sum += n.Links[s.Link].Diff
		}
		c.Budget += n.Links[s.Link].Bound
	}
	return c
}

func isBroken(n link.Net, l []link.Step) bool {
	c := sums(n, l)
	return isCycle(n, l) && (c.Sum > c.Budget || -c.Sum > c.Budget)
}

// isSimple reports whether no laboratory begins two steps.
func isSimple(n link.Net, l []link.Step) bool {
	begins := map[int]bool{}
	for _, s := range l {
		from, _ := ends(n, s)
		begins[from] = true
	}
	return len(begins) == len(l)
}

// hasBroken goes through all cycles in which no laboratory begins two steps.
func hasBroken(n link.Net) bool {
	var from func(l []link.Step) bool
	from = func(l []link.Step) bool {
		if len(l) > 0 && isBroken(n, l) {
			return true
		}
		for i := range n.Links {
			for _, back := range []bool{false, true} {
				longer := append(slices.Clone(l), link.Step{Link: i, Back: back})
				if len(l) > 0 {
					_, at := ends(n, l[len(l)-1])
					if begin, _ := ends(n, longer[len(l)]); begin != at {
						continue
					}
				}
				if isSimple(n, longer) && from(longer) {
					return true
				}
			}
		}
		return false
	}
	return from(nil)
}

// isSolution follows the chapter's words.
func isSolution(n link.Net, x []int) bool {
	for _, l := range n.Links {
		d := x[l.A] - x[l.B]
		if d < l.Diff-l.Bound || d > l.Diff+l.Bound {
			return false
		}
	}
	return true
}

// reaches reports whether each laboratory can be reached from each other one:
// from one to the next over a third one, or not.
func reaches(n link.Net) bool {
	is := make([][]bool, n.Labs)
	for i := range is {
		is[i] = make([]bool, n.Labs)
		is[i][i] = true
	}
	for _, l := range n.Links {
		is[l.A][l.B], is[l.B][l.A] = true, true
	}
	for via := range is {
		for i := range is {
			for k := range is {
				is[i][k] = is[i][k] || is[i][via] && is[via][k]
			}
		}
	}
	for _, row := range is {
		if slices.Contains(row, false) {
			return false
		}
	}
	return true
}

// slowBounds tries all numbers from -most to most for the laboratories from 1
// on; it returns the spans of all differences, and whether there is a solution.
func slowBounds(n link.Net, most int) ([][]api.Span, bool) {
	var bounds [][]api.Span
	x := make([]int, n.Labs)
	var try func(k int)
	try = func(k int) {
		if k < n.Labs {
			for x[k] = -most; x[k] <= most; x[k]++ {
				try(k + 1)
			}
			return
		}
		if !isSolution(n, x) {
			return
		}
		if bounds == nil {
			bounds = make([][]api.Span, n.Labs)
			for i := range x {
				for k := range x {
					bounds[i] = append(bounds[i], span(x[i]-x[k], x[i]-x[k]))
				}
			}
		}
		for i := range x {
			for k := range x {
				b := &bounds[i][k]
				b.Lo, b.Hi = min(b.Lo, x[i]-x[k]), max(b.Hi, x[i]-x[k])
			}
		}
	}
	try(1)
	return bounds, bounds != nil
}

// slowTriangles tries all lists of three steps.
func slowTriangles(n link.Net) [][]link.Step {
	var all []link.Step
	for i := range n.Links {
		all = append(all, link.Step{Link: i}, link.Step{Link: i, Back: true})
	}
	var found [][]link.Step
	for _, a := range all {
		for _, b := range all {
			for _, c := range all {
				l := []link.Step{a, b, c}
				i, k := ends(n, a)
				m, _ := ends(n, c)
				if isCycle(n, l) && i < k && k < m {
					found = append(found, l)
				}
			}
		}
	}
	key := func(l []link.Step) []int {
		i, k := ends(n, l[0])
		m, _ := ends(n, l[2])
		return []int{i, k, m, l[0].Link, l[1].Link, l[2].Link}
	}
	slices.SortFunc(found, func(l, m []link.Step) int { return slices.Compare(key(l), key(m)) })
	return found
}

// rests are, for each laboratory, the weighted rests of its links: by how much
// its difference to the other one exceeds what the link says.
func rests(n link.Net, weights []int, x []api.Ratio) []*big.Rat {
	found := make([]*big.Rat, n.Labs)
	for i := range found {
		found[i] = new(big.Rat)
	}
	for i, l := range n.Links {
		rest := new(big.Rat).Sub(big.NewRat(int64(x[l.A].N), int64(x[l.A].D)), big.NewRat(int64(x[l.B].N), int64(x[l.B].D)))
		rest.Sub(rest, big.NewRat(int64(l.Diff), 1))
		rest.Mul(rest, big.NewRat(int64(weights[i]), 1))
		found[l.A].Add(found[l.A], rest)
		found[l.B].Sub(found[l.B], rest)
	}
	return found
}

// loss is the sum that is least for a fit.
func loss(n link.Net, weights []int, x []api.Ratio) *big.Rat {
	sum := new(big.Rat)
	for i, l := range n.Links {
		rest := new(big.Rat).Sub(big.NewRat(int64(x[l.A].N), int64(x[l.A].D)), big.NewRat(int64(x[l.B].N), int64(x[l.B].D)))
		rest.Sub(rest, big.NewRat(int64(l.Diff), 1))
		rest.Mul(rest, rest)
		sum.Add(sum, rest.Mul(rest, big.NewRat(int64(weights[i]), 1)))
	}
	return sum
}

// anyWeights is a weight for each link of a net.
func anyWeights(r *rand.Rand, n link.Net) []int {
	var l []int
	for range n.Links {
		l = append(l, 1+r.Intn(link.MaxWeight))
	}
	return l
}

// bounds are those of a net that has them.
func bounds(t *testing.T, n link.Net) [][]api.Span {
	t.Helper()
	b, e := link.Bounds(n)
	if e != api.OK || len(b) != n.Labs {
		t.Fatal(n, b, e)
	}
	return b
}
