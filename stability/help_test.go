package stability_test

import (
	"math/big"
	"math/rand"

	"meridian/api"
	"meridian/stability"
)

const most = 1000000

// vary is a function that returns a variance.
type vary func(stability.Series, int) (api.Ratio, api.Errno)

// named is a variance with the slow one that follows the chapter's words.
type named struct {
	name string
	f    vary
	slow func(s stability.Series, m int) *big.Rat
}

func all() []named {
	return []named{
		{"Allan", stability.Allan, slowAllan},
		{"Overlapping", stability.Overlapping, slowOverlapping},
		{"Modified", stability.Modified, slowModified},
		{"Hadamard", stability.Hadamard, slowHadamard},
		{"Time", stability.Time, slowTime},
	}
}

func series(tau int, x ...int) stability.Series { return stability.Series{Tau: tau, X: x} }

func ratio(n, d int) api.Ratio { return api.Ratio{N: n, D: d} }

func whole(n int) *big.Int { return big.NewInt(int64(n)) }

func times(l ...int) *big.Int {
	product := whole(1)
	for _, n := range l {
		product.Mul(product, whole(n))
	}
	return product
}

// equal reports whether r is want, in lowest terms, as numbers of big are.
func equal(r api.Ratio, want *big.Rat) bool {
	return want.Num().Cmp(whole(r.N)) == 0 && want.Denom().Cmp(whole(r.D)) == 0
}

func rat(r api.Ratio) *big.Rat { return big.NewRat(int64(r.N), int64(r.D)) }

// second is the second difference at i.
func second(s stability.Series, m, i int) int { return s.X[i+2*m] - 2*s.X[i+m] + s.X[i] }

// meanSquare is the mean of the squares, divided by d; nil without numbers.
func meanSquare(l []int, d *big.Int) *big.Rat {
	if len(l) == 0 {
		return nil
	}
	sum := whole(0)
	for _, n := range l {
		sum.Add(sum, times(n, n))
	}
	return new(big.Rat).SetFrac(sum, d.Mul(d, whole(len(l))))
}

func slowAllan(s stability.Series, m int) *big.Rat {
	var l []int
	for i := range s.X {
		if i%m == 0 && i+2*m < len(s.X) {
			l = append(l, second(s, m, i))
		}
	}
	return meanSquare(l, times(2, m, m, s.Tau, s.Tau))
}

func slowOverlapping(s stability.Series, m int) *big.Rat {
	var l []int
	for i := range s.X {
		if i+2*m < len(s.X) {
			l = append(l, second(s, m, i))
		}
	}
	return meanSquare(l, times(2, m, m, s.Tau, s.Tau))
}

func slowModified(s stability.Series, m int) *big.Rat {
	var l []int
	for i := range s.X {
		if i+3*m > len(s.X) {
			break
		}
		sum := 0
		for j := range m {
			sum += second(s, m, i+j)
		}
		l = append(l, sum)
	}
	return meanSquare(l, times(2, m, m, m, m, s.Tau, s.Tau))
}

func slowHadamard(s stability.Series, m int) *big.Rat {
	var l []int
	for i := range s.X {
		if i+3*m < len(s.X) {
			l = append(l, second(s, m, i+m)-second(s, m, i))
		}
	}
	return meanSquare(l, times(6, m, m, s.Tau, s.Tau))
}

func slowTime(s stability.Series, m int) *big.Rat {
	v := slowModified(s, m)
	if v == nil {
		return nil
	}
	return v.Mul(v, new(big.Rat).SetFrac(times(m, m, s.Tau, s.Tau), whole(3)))
}

// steep are the phases, all at their limits, whose differences are greatest for
// a number m: m at one limit, m at the other one, and so on.
func steep(n, m, tau int) stability.Series {
	s := stability.Series{Tau: tau}
	for i := range n {
		s.X = append(s.X, most-2*most*(i/m%2))
	}
	return s
}

// anySeries is a valid series of n phases, with phases of up to size.
func anySeries(r *rand.Rand, n, size int) stability.Series {
	s := stability.Series{Tau: 1 + r.Intn(1+r.Intn(1000))}
	for range n {
		s.X = append(s.X, r.Intn(2*size+1)-size)
	}
	return s
}

// leaves is the sum of the squares that a line leaves.
func leaves(s stability.Series, offset, slope *big.Rat) *big.Rat {
	sum := new(big.Rat)
	for i, x := range s.X {
		d := new(big.Rat).Mul(slope, new(big.Rat).SetInt64(int64(i)))
		d.Add(d, offset)
		d.Sub(new(big.Rat).SetInt64(int64(x)), d)
		sum.Add(sum, d.Mul(d, d))
	}
	return sum
}
