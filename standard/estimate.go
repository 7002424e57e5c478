package standard

import (
	"slices"

	"meridian/api"
	"meridian/number"
)

// Estimate is a value with its variance.
type Estimate struct{ Value, Variance api.Ratio }

// Mean returns the weighted mean and the chi square.
func Mean(l []Estimate) (Estimate, api.Ratio, api.Errno) {
	if e := checkEstimates(l); e != api.OK {
		return Estimate{}, api.Ratio{}, e
	}
	m, e := attempt(func() Estimate { return mean(l) })
	if e != api.OK {
		return Estimate{}, api.Ratio{}, e
	}
	chi, e := attempt(func() api.Ratio { return chiSquare(l, m.Value) })
	if e != api.OK {
		return Estimate{}, api.Ratio{}, e
	}
	return m, chi, api.OK
}

// Without returns the mean of all estimates but one.
func Without(l []Estimate, i int) (Estimate, api.Errno) {
	if !number.IsIndex(i, len(l)) {
		return Estimate{}, api.ErrArg
	}
	m, _, e := Mean(slices.Concat(l[:i], l[i+1:]))
	return m, e
}

func checkEstimates(l []Estimate) api.Errno {
	if len(l) == 0 {
		return api.ErrNone
	}
	if len(l) > MaxEstimates {
		return api.ErrMany
	}
	for _, x := range l {
		if !isNumber(x.Value) || !isNumber(x.Variance) || x.Variance.N <= 0 {
			return api.ErrRange
		}
	}
	return api.OK
}

func mean(l []Estimate) Estimate {
	weighted := total(l, func(x Estimate) api.Ratio { return divide(x.Value, x.Variance) })
	weight := total(l, func(x Estimate) api.Ratio { return divide(whole(1), x.Variance) })
	return Estimate{Value: divide(weighted, weight), Variance: divide(whole(1), weight)}
}

func chiSquare(l []Estimate, mean api.Ratio) api.Ratio {
	return total(l, func(x Estimate) api.Ratio { return divide(square(subtract(x.Value, mean)), x.Variance) })
}

// total is the sum of what f returns for the estimates, from the left.
func total(l []Estimate, f func(Estimate) api.Ratio) api.Ratio {
	sum := whole(0)
	for _, x := range l {
		sum = add(sum, f(x))
	}
	return sum
}
