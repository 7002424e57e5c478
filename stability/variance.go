package stability

import (
	"iter"
	"slices"

	"meridian/api"
	"meridian/number"
)

// Places of the variances in their row.
const (
	allan = iota
	overlapping
	modified
	hadamard
	time
)

// variance says which numbers of a series are squared, and by what the mean of
// the squares is divided.
type variance struct {
	numbers func(s Series, m int) iter.Seq[int]
	divisor func(m, tau int) int
}

func variances() [5]variance {
	ofSeconds := func(m, tau int) int { return 2 * m * m * tau * tau }
	return [...]variance{
		allan: {
			func(s Series, m int) iter.Seq[int] { return s.seconds(m, m) },
			ofSeconds,
		},
		overlapping: {
			func(s Series, m int) iter.Seq[int] { return s.seconds(m, 1) },
			ofSeconds,
		},
		modified: {
			Series.sums,
			func(m, tau int) int { return 2 * m * m * m * m * tau * tau },
		},
		hadamard: {
			Series.thirds,
			func(m, tau int) int { return 6 * m * m * tau * tau },
		},
		// Not told from the modified variance: its numerator times m^2 Tau^2
		// would not always fit an int.
		time: {
			Series.sums,
			func(m, _ int) int { return 6 * m * m },
		},
	}
}

// of is the variance of a series. An int holds the sum of the squares: the
// greatest is that of 42 sums of 29 second differences of at most 4 * 10^6.
func (v variance) of(s Series, m int) (api.Ratio, api.Errno) {
	if e := checkStep(s, m); e != api.OK {
		return api.Ratio{}, e
	}
	sum, count := 0, 0
	for d := range v.numbers(s, m) {
		sum += d * d
		count++
	}
	if count == 0 {
		return api.Ratio{}, api.ErrNone
	}
	return number.Lowest(sum, count*v.divisor(m, s.Tau)), api.OK
}

// seconds yields the second differences at 0, stride, 2 stride and so on.
func (s Series) seconds(m, stride int) iter.Seq[int] {
	return func(yield func(int) bool) {
		for i := 0; i+2*m < len(s.X); i += stride {
			if !yield(s.X[i+2*m] - 2*s.X[i+m] + s.X[i]) {
				return
			}
		}
	}
}

// thirds yields all third differences.
func (s Series) thirds(m int) iter.Seq[int] {
	return func(yield func(int) bool) {
		for i := 0; i+3*m < len(s.X); i++ {
			if !yield(s.X[i+3*m] - 3*s.X[i+2*m] + 3*s.X[i+m] - s.X[i]) {
				return
			}
		}
	}
}

// sums yields the sum of each m second differences that follow each other.
func (s Series) sums(m int) iter.Seq[int] {
	return func(yield func(int) bool) {
		l := slices.Collect(s.seconds(m, 1))
		for i := 0; i+m <= len(l); i++ {
			if !yield(sum(l[i : i+m])) {
				return
			}
		}
	}
}

func sum(l []int) int {
	total := 0
	for _, x := range l {
		total += x
	}
	return total
}
