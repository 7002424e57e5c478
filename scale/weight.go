package scale

import (
	"cmp"
	"slices"

	"meridian/api"
	"meridian/number"
)

const (
	// maxPower is the power of a clock without misses.
	maxPower = 100000000000
	// missUnit is what is lost of a miss before it is squared.
	missUnit = 1000
)

// Apportion apportions a total by powers, with a greatest part.
func Apportion(powers []int, total, most int) ([]int, api.Errno) {
	if len(powers) > MaxMembers {
		return nil, api.ErrMany
	}
	for _, p := range powers {
		if !number.Within(p, 1, maxPower) {
			return nil, api.ErrRange
		}
	}
	if !number.Within(total, 0, Whole) || !number.Within(most, 0, Whole) {
		return nil, api.ErrRange
	}
	if most*len(powers) < total {
		return nil, api.ErrWeight
	}
	return apportion(powers, total, most), api.OK
}

// apportion gives what is still missing to those with the greatest remainders.
// It need not ask whether these are below most: there are more shares that are
// not whole than what is missing, and none of these is greater than most.
func apportion(powers []int, total, most int) []int {
	open, left := fill(powers, total, most)
	sum := sumAt(powers, open)
	parts := slices.Repeat([]int{most}, len(powers))
	missing := left
	for _, i := range open {
		parts[i] = left * powers[i] / sum
		missing -= parts[i]
	}
	slices.SortStableFunc(open, func(i, j int) int {
		return cmp.Compare(left*powers[j]%sum, left*powers[i]%sum)
	})
	for _, i := range open[:missing] {
		parts[i]++
	}
	return parts
}

// fill tells the indices of those that are not full in the end, and what is
// left for them. Shares are compared without a division: an int holds most
// times the sum of the powers, as it is at most 16 * 10^17.
func fill(powers []int, total, most int) (open []int, left int) {
	for i := range powers {
		open = append(open, i)
	}
	left = total
	for {
		sum := sumAt(powers, open)
		rest := slices.DeleteFunc(slices.Clone(open), func(i int) bool {
			return left*powers[i] > most*sum
		})
		full := len(open) - len(rest)
		if full == 0 {
			return open, left
		}
		open, left = rest, left-most*full
	}
}

// sumAt is the sum of the numbers at some indices.
func sumAt(l, indices []int) int {
	sum := 0
	for _, i := range indices {
		sum += l[i]
	}
	return sum
}

// power is the greater, the less a member has missed lately.
func (m Member) power() int {
	if len(m.Misses) == 0 {
		return maxPower
	}
	sum := 0
	for _, miss := range m.Misses {
		sum += (miss / missUnit) * (miss / missUnit)
	}
	return max(1, maxPower/(1+sum/len(m.Misses)))
}
