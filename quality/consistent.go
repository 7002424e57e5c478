package quality

import (
	"iter"
	"math/bits"

	"meridian/api"
	"meridian/number"
)

// The sums of results: of their weights, and of their values and of the squares
// of these, each times its weight.
const (
	weights = iota
	values
	squares
)

// limits are the greatest chi of one consistent result, of two and so on, in
// hundredths; that of one is 0 always.
var limits = [MaxResults]int{0, 384, 599, 781, 949, 1107, 1259, 1407, 1551, 1692}

// sums are those of some results; without results all are 0.
type sums [3]int

// Chi returns the chi of some results.
func Chi(c Comparison, set []int) (api.Ratio, api.Errno) {
	if e := checkSet(c, set); e != api.OK {
		return api.Ratio{}, e
	}
	return c.chi(set), api.OK
}

// Consistent reports whether some results are consistent.
func Consistent(c Comparison, set []int) (bool, api.Errno) {
	if e := checkSet(c, set); e != api.OK {
		return false, e
	}
	return c.isConsistent(set), api.OK
}

// Largest returns the largest consistent set.
func Largest(c Comparison) ([]int, api.Errno) {
	if e := Check(c); e != api.OK {
		return nil, e
	}
	var best []int
	var least sums
	for set := range sets(len(c.Results)) {
		if len(set) < len(best) {
			break
		}
		s := c.sums(set)
		if c.isConsistent(set) && (least == (sums{}) || number.Compare(s.rest(), least.rest()) < 0) {
			best, least = set, s
		}
	}
	return best, api.OK
}

func checkSet(c Comparison, set []int) api.Errno {
	if e := Check(c); e != api.OK {
		return e
	}
	if !isSet(set, len(c.Results)) {
		return api.ErrArg
	}
	return api.OK
}

// isSet reports whether there are indices of count results in set, in increasing
// order.
func isSet(set []int, count int) bool {
	return len(set) > 0 && number.AreIndices(set, count)
}

// sets yields all sets of indices of count results: those with more indices
// first, and those with equally many in lexicographic order.
func sets(count int) iter.Seq[[]int] {
	return func(yield func([]int) bool) {
		for size := count; size > 0; size-- {
			for mask := 1<<count - 1; mask > 0; mask-- {
				if bits.OnesCount(uint(mask)) == size && !yield(indices(mask, count)) {
					return
				}
			}
		}
	}
}

// indices are those whose bits are set in mask; the highest one of count bits is
// that of index 0, so that greater numbers stand for lists that come before.
func indices(mask, count int) []int {
	var l []int
	for i := range count {
		if mask>>(count-1-i)&1 == 1 {
			l = append(l, i)
		}
	}
	return l
}

// chi is that of the results with the indices of set.
func (c Comparison) chi(set []int) api.Ratio {
	rest := c.sums(set).rest()
	return number.Lowest(rest.N, rest.D*c.Unit)
}

func (c Comparison) isConsistent(set []int) bool {
	return number.Compare(c.chi(set), api.Ratio{N: limits[len(set)-1], D: 100}) <= 0
}

// sums are those of the results with the indices of set.
func (c Comparison) sums(set []int) sums {
	var l []Result
	for _, i := range set {
		l = append(l, c.Results[i])
	}
	return sumsOf(l)
}

func sumsOf(l []Result) sums {
	var s sums
	for _, r := range l {
		s[weights] += r.Weight
		s[values] += r.Weight * r.Value
		s[squares] += r.Weight * r.Value * r.Value
	}
	return s
}

// mean is the reference of the results.
func (s sums) mean() api.Ratio { return number.Lowest(s[values], s[weights]) }

// beyond is by how much r is above the reference, times the sum of the weights.
func (s sums) beyond(r Result) int { return r.Value*s[weights] - s[values] }

// rest is the sum of the weights times the squares of the differences to the
// reference.
func (s sums) rest() api.Ratio {
	return number.Lowest(s[weights]*s[squares]-s[values]*s[values], s[weights])
}
