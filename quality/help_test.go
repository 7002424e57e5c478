package quality_test

import (
	"math"
	"math/big"
	"math/rand"
	"slices"
	"testing"

	"meridian/api"
	"meridian/quality"
)

// first and last are the days of layer 9 at its ends.
const (
	first = 41317
	last  = 88068
)

// far are numbers that are allowed nowhere.
var far = []int{math.MinInt, math.MinInt + 1, -1 << 62, -1000001, 1000001, 1 << 32, 1 << 62, math.MaxInt - 1, math.MaxInt}

// must is what a call returned that has to have no error.
func must[T any](t *testing.T) func(x T, e api.Errno) T {
	return func(x T, e api.Errno) T {
		t.Helper()
		if e != api.OK {
			t.Fatal(x, e)
		}
		return x
	}
}

func ratio(n, d int) api.Ratio { return api.Ratio{N: n, D: d} }

func span(lo, hi int) api.Span { return api.Span{Lo: lo, Hi: hi} }

// rat is a fraction as one of big.
func rat(n, d int) *big.Rat { return big.NewRat(int64(n), int64(d)) }

// equal reports whether r is want, in lowest terms, as numbers of big are.
func equal(r api.Ratio, want *big.Rat) bool {
	return want.Num().Cmp(big.NewInt(int64(r.N))) == 0 && want.Denom().Cmp(big.NewInt(int64(r.D))) == 0
}

func plus(a, b *big.Rat) *big.Rat  { return new(big.Rat).Add(a, b) }
func minus(a, b *big.Rat) *big.Rat { return new(big.Rat).Sub(a, b) }
func times(a, b *big.Rat) *big.Rat { return new(big.Rat).Mul(a, b) }

// result has a Lab, a Value and a Weight.
func result(lab, value, weight int) quality.Result {
	return quality.Result{Lab: lab, Value: value, Weight: weight}
}

func comparison(unit int, l ...quality.Result) quality.Comparison {
	return quality.Comparison{Unit: unit, Results: l}
}

// anyComparison has count results, of laboratories below labs, with values up to
// most and weights up to heavy.
func anyComparison(r *rand.Rand, unit, count, labs, most, heavy int) quality.Comparison {
	c := quality.Comparison{Unit: unit}
	for _, lab := range r.Perm(labs)[:count] {
		c.Results = append(c.Results, result(lab, r.Intn(2*most+1)-most, 1+r.Intn(heavy)))
	}
	return c
}

// comparisons are of all sizes, among them those with the greatest numbers.
func comparisons(r *rand.Rand, count int) []quality.Comparison {
	var l []quality.Comparison
	for range count {
		l = append(l,
			anyComparison(r, 1+r.Intn(4), 1+r.Intn(10), 10, 3, 2),
			anyComparison(r, 1+r.Intn(1000), 1+r.Intn(10), 100, 100, 100),
			anyComparison(r, 1+r.Intn(1000000), 1+r.Intn(10), 100, 2000, 100),
			anyComparison(r, 1+r.Intn(1000000), 1+r.Intn(10), 100, 100000, 100))
		c := anyComparison(r, []int{1, 999999, 1000000}[r.Intn(3)], 1+r.Intn(10), 10, 1, 1)
		for i := range c.Results {
			c.Results[i].Value = []int{-100000, 100000}[r.Intn(2)]
			c.Results[i].Weight = []int{1, 99, 100}[r.Intn(3)]
		}
		l = append(l, c)
	}
	return l
}

// slowMean is the reference of results, and the sum of their weights.
func slowMean(l []quality.Result) (*big.Rat, *big.Rat) {
	sum, weights := rat(0, 1), rat(0, 1)
	for _, r := range l {
		sum = plus(sum, rat(r.Weight*r.Value, 1))
		weights = plus(weights, rat(r.Weight, 1))
	}
	return new(big.Rat).Quo(sum, weights), weights
}

// slowDegree is the degree of result number i, and its variance.
func slowDegree(c quality.Comparison, i int) (*big.Rat, *big.Rat) {
	mean, weights := slowMean(c.Results)
	r := c.Results[i]
	return minus(rat(r.Value, 1), mean), minus(rat(c.Unit, r.Weight), new(big.Rat).Quo(rat(c.Unit, 1), weights))
}

// chosen are the results with some indices.
func chosen(c quality.Comparison, set []int) []quality.Result {
	var l []quality.Result
	for _, i := range set {
		l = append(l, c.Results[i])
	}
	return l
}

// chiAbout is the chi that results have about a number.
func chiAbout(unit int, l []quality.Result, about *big.Rat) *big.Rat {
	sum := rat(0, 1)
	for _, r := range l {
		diff := minus(rat(r.Value, 1), about)
		sum = plus(sum, times(rat(r.Weight, unit), times(diff, diff)))
	}
	return sum
}

func slowChi(c quality.Comparison, set []int) *big.Rat {
	l := chosen(c, set)
	mean, _ := slowMean(l)
	return chiAbout(c.Unit, l, mean)
}

// slowConsistent reports whether results with the indices of set are consistent.
func slowConsistent(c quality.Comparison, set []int) bool {
	limits := []int{384, 599, 781, 949, 1107, 1259, 1407, 1551, 1692}
	return len(set) == 1 || slowChi(c, set).Cmp(rat(limits[len(set)-2], 100)) <= 0
}

// sets are all sets of indices of count results, without the empty one.
func sets(count int) [][]int {
	var l [][]int
	for mask := 1; mask < 1<<count; mask++ {
		var set []int
		for i := range count {
			if mask&(1<<i) != 0 {
				set = append(set, i)
			}
		}
		l = append(l, set)
	}
	return l
}

func calibration(of, by, day, days, wrong int) quality.Calibration {
	return quality.Calibration{Of: of, By: by, Day: day, Days: days, Error: wrong}
}

// shop has count instruments, of which the number 0 is primary.
func shop(count int, l ...quality.Calibration) quality.Shop {
	s := quality.Shop{Primary: make([]bool, count), List: l}
	s.Primary[0] = true
	return s
}

// anyShop has count calibrations on few days from a day on, so that there are
// circles.
func anyShop(r *rand.Rand, tools, count, from, days int) quality.Shop {
	s := quality.Shop{Primary: make([]bool, tools)}
	for i := range s.Primary {
		s.Primary[i] = r.Intn(5) == 0
	}
	for range count {
		of := r.Intn(tools)
		by := (of + 1 + r.Intn(tools-1)) % tools
		s.List = append(s.List, calibration(of, by, from+r.Intn(days), 1+r.Intn(days), r.Intn(3)))
	}
	return s
}

// holds reports whether c is valid on a day.
func holds(c quality.Calibration, day int) bool { return c.Day <= day && day < c.Day+c.Days }

// isChain reports by the chapter's words whether a list is a chain.
func isChain(s quality.Shop, tool, day int, chain []int) bool {
	if s.Primary[tool] {
		return len(chain) == 0
	}
	if len(chain) == 0 {
		return false
	}
	for at, i := range chain {
		if i < 0 || i >= len(s.List) || slices.Index(chain, i) != at {
			return false
		}
		c := s.List[i]
		if at == 0 && (c.Of != tool || !holds(c, day)) {
			return false
		}
		if at > 0 && (c.Of != s.List[chain[at-1]].By || !holds(c, s.List[chain[at-1]].Day)) {
			return false
		}
		if s.Primary[c.By] != (at == len(chain)-1) {
			return false
		}
	}
	return true
}

// chains are all chains of an instrument on a day, among all lists in which each
// calibration is one of the instrument that the one before was made by.
func chains(s quality.Shop, tool, day int) [][]int {
	var l [][]int
	var grow func(list []int, of int)
	grow = func(list []int, of int) {
		if isChain(s, tool, day, list) {
			l = append(l, slices.Clone(list))
		}
		for i, c := range s.List {
			if c.Of == of && !slices.Contains(list, i) {
				grow(append(list, i), c.By)
			}
		}
	}
	grow(nil, tool)
	return l
}

// total is the sum of the Errors of a list.
func total(s quality.Shop, chain []int) int {
	sum := 0
	for _, i := range chain {
		sum += s.List[i].Error
	}
	return sum
}

// slowBest is the best chain, if there is one.
func slowBest(s quality.Shop, tool, day int) ([]int, bool) {
	l := chains(s, tool, day)
	if len(l) == 0 {
		return nil, false
	}
	return slices.MinFunc(l, func(a, b []int) int {
		if n := total(s, a) - total(s, b); n != 0 {
			return n
		}
		if n := len(a) - len(b); n != 0 {
			return n
		}
		return slices.Compare(a, b)
	}), true
}

// isTraced asks Trace.
func isTraced(t *testing.T, s quality.Shop, tool, day int) bool {
	t.Helper()
	_, _, e := quality.Trace(s, tool, day)
	if e != api.OK && e != api.ErrNone {
		t.Fatal(s, tool, day, e)
	}
	return e == api.OK
}

func entry(kind, doc, who, day int) quality.Entry {
	return quality.Entry{Kind: kind, Doc: doc, Who: who, Day: day}
}

// ofLast are the entries on a document since its last version was drafted, if
// there is one, and how many versions there are.
func ofLast(l []quality.Entry, doc int) ([]quality.Entry, int) {
	var since []quality.Entry
	versions := 0
	for _, x := range l {
		if x.Doc != doc {
			continue
		}
		if x.Kind == 1 {
			since = nil
			versions++
		}
		since = append(since, x)
	}
	return since, versions
}

// hasKind reports whether one of l has a kind and satisfies is.
func hasKind(l []quality.Entry, kind int, is func(who int) bool) bool {
	return slices.ContainsFunc(l, func(x quality.Entry) bool { return x.Kind == kind && is(x.Who) })
}

// slowAllowed reports by the chapter's words whether x is allowed behind the entries
// of l.
func slowAllowed(l []quality.Entry, x quality.Entry) bool {
	since, versions := ofLast(l, x.Doc)
	any := func(int) bool { return true }
	open := versions > 0 && !hasKind(since, 3, any) && !hasKind(since, 4, any)
	switch x.Kind {
	case 1:
		return true
	case 2:
		return open && since[0].Who != x.Who
	case 3:
		return open && since[0].Who != x.Who && hasKind(since, 2, func(who int) bool { return who != x.Who })
	default:
		return versions > 0 && !hasKind(since, 4, any)
	}
}

// slowInForce is the version in force by the chapter's words, if there is one.
func slowInForce(l []quality.Entry, doc, day int) (quality.Page, bool) {
	approval := -1
	for i, x := range l {
		if x.Doc == doc && x.Kind == 3 && x.Day <= day {
			approval = i
		}
	}
	if approval < 0 {
		return quality.Page{}, false
	}
	for _, x := range l[approval:] {
		if x.Doc == doc && x.Kind == 4 && x.Day <= day {
			return quality.Page{}, false
		}
	}
	since, versions := ofLast(l[:approval], doc)
	return quality.Page{Version: versions, Drafter: since[0].Who, Approved: l[approval].Day}, true
}
