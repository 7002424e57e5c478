package quality

import (
	"meridian/api"
	"meridian/number"
)

const (
	maxLab    = 99
	maxWeight = 100
)

// Check reports whether a comparison is valid.
func Check(c Comparison) api.Errno {
	if !number.Within(len(c.Results), 1, MaxResults) {
		return api.ErrMany
	}
	if !number.Within(c.Unit, 1, MaxUnit) {
		return api.ErrRange
	}
	for _, r := range c.Results {
		if !r.isAllowed() {
			return api.ErrRange
		}
	}
	var seen [maxLab + 1]bool
	for _, r := range c.Results {
		if seen[r.Lab] {
			return api.ErrTwice
		}
		seen[r.Lab] = true
	}
	return api.OK
}

// Reference returns the reference and its variance.
func Reference(c Comparison) (api.Ratio, api.Ratio, api.Errno) {
	if e := Check(c); e != api.OK {
		return api.Ratio{}, api.Ratio{}, e
	}
	all := sumsOf(c.Results)
	return all.mean(), number.Lowest(c.Unit, all[weights]), api.OK
}

// Degrees returns the degrees of all results.
func Degrees(c Comparison) ([]Degree, api.Errno) {
	if e := Check(c); e != api.OK {
		return nil, e
	}
	return c.degrees(), api.OK
}

// Pair returns the degree of two results.
func Pair(c Comparison, a, b int) (Degree, api.Errno) {
	if e := Check(c); e != api.OK {
		return Degree{}, e
	}
	if !number.IsIndex(a, len(c.Results)) || !number.IsIndex(b, len(c.Results)) || a == b {
		return Degree{}, api.ErrArg
	}
	x, y := c.Results[a], c.Results[b]
	return Degree{
		Lab:  x.Lab,
		Diff: api.Ratio{N: x.Value - y.Value, D: 1},
		Var:  number.Lowest(c.Unit*(x.Weight+y.Weight), x.Weight*y.Weight),
	}, api.OK
}

// Large returns the results whose degree is large.
func Large(c Comparison) ([]int, api.Errno) {
	if e := Check(c); e != api.OK {
		return nil, e
	}
	all := sumsOf(c.Results)
	var l []int
	for i, r := range c.Results {
		// Both sides of the question have the factor Weight * W * W, with which
		// they are whole numbers that an int holds.
		diff, whole := all.beyond(r), all[weights]
		if diff*diff*r.Weight > 4*c.Unit*(whole-r.Weight)*whole {
			l = append(l, i)
		}
	}
	return l, api.OK
}

// Join joins two comparisons.
func Join(a, b Comparison) (api.Ratio, []Degree, api.Errno) {
	for _, c := range []Comparison{a, b} {
		if e := Check(c); e != api.OK {
			return api.Ratio{}, nil, e
		}
	}
	by, is := shift(a, b)
	if !is {
		return api.Ratio{}, nil, api.ErrNone
	}
	l := b.degrees()
	for i := range l {
		l[i].Diff = add(l[i].Diff, by)
	}
	return by, l, api.OK
}

func (r Result) isAllowed() bool {
	return number.Within(r.Lab, 0, maxLab) && number.Within(r.Value, -MaxValue, MaxValue) && number.Within(r.Weight, 1, maxWeight)
}

// degrees are those of a valid comparison.
func (c Comparison) degrees() []Degree {
	all := sumsOf(c.Results)
	var l []Degree
	for _, r := range c.Results {
		l = append(l, Degree{
			Lab:  r.Lab,
			Diff: number.Lowest(all.beyond(r), all[weights]),
			Var:  number.Lowest(c.Unit*(all[weights]-r.Weight), r.Weight*all[weights]),
		})
	}
	return l
}

// shift is that of two valid comparisons, if a laboratory took part in both. As
// all degrees of a comparison have the same reference, it is left out of the mean.
func shift(a, b Comparison) (api.Ratio, bool) {
	first := map[int]int{}
	for _, r := range a.Results {
		first[r.Lab] = r.Value
	}
	sum, count := 0, 0
	for _, r := range b.Results {
		if value, is := first[r.Lab]; is {
			sum += value - r.Value
			count++
		}
	}
	if count == 0 {
		return api.Ratio{}, false
	}
	references := add(sumsOf(b.Results).mean(), negate(sumsOf(a.Results).mean()))
	return add(number.Lowest(sum, count), references), true
}

func add(a, b api.Ratio) api.Ratio { return number.Lowest(a.N*b.D+b.N*a.D, a.D*b.D) }

func negate(r api.Ratio) api.Ratio { return api.Ratio{N: -r.N, D: r.D} }
