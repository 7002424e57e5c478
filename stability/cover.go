package stability

import (
	"slices"

	"meridian/api"
	"meridian/number"
)

const (
	// maxPart is the greatest denominator of a chance that is asked for.
	maxPart = 1000000
	// maxNumber is as far as a number to be exchanged may be from 0.
	maxNumber = 1000000000000
)

// Cover is an interval with the chance that the median lies in it.
type Cover struct {
	Low, High int
	Chance    api.Ratio
}

// Chance returns the chance of a cover.
func Chance(n, k int) (api.Ratio, api.Errno) {
	if !number.Within(n, 2, MaxCover) || !number.Within(k, 1, n/2) {
		return api.Ratio{}, api.ErrArg
	}
	return chance(n, k), api.OK
}

// Median returns the narrowest cover of the median whose chance is at least
// least.
func Median(l []int, least api.Ratio) (Cover, api.Errno) {
	n := len(l)
	if !number.Within(n, 2, MaxCover) || !isPart(least) {
		return Cover{}, api.ErrArg
	}
	sorted := slices.Clone(l)
	slices.Sort(sorted)
	for k := n / 2; k >= 1; k-- {
		if c := chance(n, k); c.N*least.D >= least.N*c.D {
			return Cover{Low: sorted[k-1], High: sorted[n-k], Chance: c}, api.OK
		}
	}
	return Cover{}, api.ErrNone
}

// Exchange returns how likely a sum is if numbers are exchanged at random.
func Exchange(a, b []int) (api.Ratio, api.Errno) {
	if len(a) == 0 || len(b) == 0 {
		return api.Ratio{}, api.ErrArg
	}
	if len(a)+len(b) > MaxPool {
		return api.Ratio{}, api.ErrMany
	}
	pool := slices.Concat(a, b)
	for _, x := range pool {
		if !number.Within(x, -maxNumber, maxNumber) {
			return api.Ratio{}, api.ErrRange
		}
	}
	return exchange(pool, len(a)), api.OK
}

// chance takes from all 2^n choices those with less than k numbers below the
// median, and as many with less than k above.
func chance(n, k int) api.Ratio {
	few, ways := 0, 1
	for i := range k {
		few += ways
		ways = ways * (n - i) / (i + 1)
	}
	return number.Lowest(1<<n-2*few, 1<<n)
}

func isPart(r api.Ratio) bool {
	return number.IsLowest(r) && r.D <= maxPart && number.Within(r.N, 0, r.D)
}

// exchange is the part of all sets of count numbers of the pool whose sum is at
// least that of the first ones.
func exchange(pool []int, count int) api.Ratio {
	least := sum(pool[:count])
	sets, great := 0, 0
	var choose func(from, left, total int)
	choose = func(from, left, total int) {
		if left == 0 {
			sets++
			if total >= least {
				great++
			}
			return
		}
		for i := from; i+left <= len(pool); i++ {
			choose(i+1, left-1, total+pool[i])
		}
	}
	choose(0, count, 0)
	return number.Lowest(great, sets)
}
