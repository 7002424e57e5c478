package stability_test

import (
	"math"
	"math/big"
	"math/bits"
	"math/rand"
	"slices"
	"testing"

	"meridian/api"
	"meridian/stability"
)

// slowChance follows the chapter's words.
func slowChance(n, k int) *big.Rat {
	sum := whole(0)
	for i := range k {
		sum.Add(sum, new(big.Int).Binomial(int64(n), int64(i)))
	}
	part := new(big.Rat).SetFrac(sum.Lsh(sum, 1), new(big.Int).Lsh(whole(1), uint(n)))
	return part.Sub(big.NewRat(1, 1), part)
}

// P3.3: all chances that there are, and no others.
func TestChance(t *testing.T) {
	for n := -1; n <= stability.MaxCover+2; n++ {
		for k := -1; k <= stability.MaxCover+2; k++ {
			c, e := stability.Chance(n, k)
			if n < 2 || n > stability.MaxCover || k < 1 || 2*k > n {
				if c != (api.Ratio{}) || e != api.ErrArg {
					t.Error(n, k, c, e)
				}
			} else if e != api.OK || !equal(c, slowChance(n, k)) {
				t.Error(n, k, c, e)
			}
		}
	}
	for _, x := range []int{math.MinInt, math.MinInt / 2, 1 << 62, math.MaxInt} {
		for _, y := range []int{x, 1, 2, 40} {
			if c, e := stability.Chance(x, y); c != (api.Ratio{}) || e != api.ErrArg {
				t.Error(x, y, c, e)
			}
			if c, e := stability.Chance(y, x); c != (api.Ratio{}) || e != api.ErrArg {
				t.Error(y, x, c, e)
			}
		}
	}
}

// P3.3: the chapter's third example.
func TestChanceExamples(t *testing.T) {
	for k, want := range map[int]api.Ratio{1: ratio(15, 16), 2: ratio(5, 8)} {
		if c, e := stability.Chance(5, k); c != want || e != api.OK {
			t.Error(k, c, e)
		}
	}
	l := []int{9, 3, 7, 1, 5}
	if c, e := stability.Median(l, ratio(3, 5)); c != (stability.Cover{Low: 3, High: 7, Chance: ratio(5, 8)}) || e != api.OK {
		t.Error(c, e)
	}
}

// P3.5: a chance is the part of all choices in which at least k are below and
// at least k above.
func TestChanceCounts(t *testing.T) {
	for n := 2; n <= 14; n++ {
		for k := 1; 2*k <= n; k++ {
			held := 0
			for choice := range uint(1) << n {
				below := bits.OnesCount(choice)
				if below >= k && n-below >= k {
					held++
				}
			}
			if c, e := stability.Chance(n, k); e != api.OK || !equal(c, big.NewRat(int64(held), 1<<n)) {
				t.Error(n, k, c, e, held)
			}
		}
	}
}

// slowMedian tries all covers.
func slowMedian(l []int, least api.Ratio) (stability.Cover, api.Errno) {
	var best stability.Cover
	e := api.ErrNone
	sorted := slices.Sorted(slices.Values(l))
	for k := 1; 2*k <= len(l); k++ {
		if c := slowChance(len(l), k); c.Cmp(rat(least)) >= 0 {
			chance := ratio(int(c.Num().Int64()), int(c.Denom().Int64()))
			best, e = stability.Cover{Low: sorted[k-1], High: sorted[len(l)-k], Chance: chance}, api.OK
		}
	}
	return best, e
}

// leasts are chances to be asked for, among them those of covers, and those
// next to them.
func leasts(r *rand.Rand, n int) []api.Ratio {
	l := []api.Ratio{ratio(0, 1), ratio(1, 1), ratio(1, most), ratio(most-1, most), ratio(1, 2)}
	for k := 1; 2*k <= n; k++ {
		c, _ := stability.Chance(n, k)
		if c.D <= most {
			l = append(l, c)
		}
		for _, d := range []int{most, most - 1, 7, 1000} {
			floor := new(big.Int).Div(times(c.N, d), whole(c.D))
			for _, at := range []int{int(floor.Int64()), int(floor.Int64()) + 1} {
				if g := big.NewRat(int64(at), int64(d)); at <= d {
					l = append(l, ratio(int(g.Num().Int64()), int(g.Denom().Int64())))
				}
			}
		}
	}
	g := big.NewRat(int64(r.Intn(101)), 100)
	return append(l, ratio(int(g.Num().Int64()), int(g.Denom().Int64())))
}

// P3.3: the narrowest cover, against all covers.
func TestMedian(t *testing.T) {
	r := rand.New(rand.NewSource(4))
	for n := 2; n <= stability.MaxCover; n++ {
		for _, size := range []int{2, 50, math.MaxInt} {
			l := make([]int, n)
			for i := range l {
				l[i] = r.Intn(size) - size/2
			}
			for _, least := range leasts(r, n) {
				want, expected := slowMedian(l, least)
				if c, e := stability.Median(l, least); c != want || e != expected {
					t.Fatal(l, least, c, e, want, expected)
				}
			}
		}
	}
	l := []int{math.MaxInt, math.MinInt}
	if c, e := stability.Median(l, ratio(1, 2)); c != (stability.Cover{Low: math.MinInt, High: math.MaxInt, Chance: ratio(1, 2)}) || e != api.OK {
		t.Error(c, e)
	}
}

// P3.3: the errors of Median in their order.
func TestMedianErrors(t *testing.T) {
	zeros := make([]int, 41)
	for i, c := range []struct {
		l     []int
		least api.Ratio
		want  api.Errno
	}{
		{nil, ratio(1, 2), api.ErrArg},
		{zeros[:1], ratio(0, 1), api.ErrArg},
		{zeros[:41], ratio(0, 1), api.ErrArg},
		{zeros[:40], ratio(0, 1), api.OK},
		{zeros[:2], ratio(0, 1), api.OK},
		{zeros[:2], api.Ratio{}, api.ErrArg},
		{zeros[:5], ratio(2, 4), api.ErrArg},
		{zeros[:5], ratio(0, 2), api.ErrArg},
		{zeros[:5], ratio(2, 2), api.ErrArg},
		{zeros[:5], ratio(3, 2), api.ErrArg},
		{zeros[:5], ratio(2, 1), api.ErrArg},
		{zeros[:5], ratio(-1, 2), api.ErrArg},
		{zeros[:5], ratio(-1, -2), api.ErrArg},
		{zeros[:5], ratio(1, -2), api.ErrArg},
		{zeros[:5], ratio(0, -1), api.ErrArg},
		{zeros[:5], ratio(1, 0), api.ErrArg},
		{zeros[:5], ratio(1, most+1), api.ErrArg},
		{zeros[:5], ratio(1, math.MaxInt), api.ErrArg},
		{zeros[:5], ratio(math.MaxInt-1, math.MaxInt), api.ErrArg},
		{zeros[:5], ratio(math.MinInt, math.MinInt), api.ErrArg},
		{zeros[:5], ratio(math.MinInt, 1), api.ErrArg},
		{zeros[:5], ratio(1, most), api.OK},
		{zeros[:5], ratio(15, 16), api.OK},
		{zeros[:5], ratio(937501, most), api.ErrNone},
		{zeros[:40], ratio(most-1, most), api.OK},
		{zeros[:40], ratio(1, 1), api.ErrNone},
	} {
		if x, e := stability.Median(c.l, c.least); e != c.want || e != api.OK && x != (stability.Cover{}) {
			t.Error(i, x, e)
		}
	}
}

// slowExchange counts the sets as the bits of numbers.
func slowExchange(a, b []int) *big.Rat {
	pool := slices.Concat(a, b)
	least := 0
	for _, x := range a {
		least += x
	}
	sets, great := 0, 0
	for set := range uint(1) << len(pool) {
		if bits.OnesCount(set) != len(a) {
			continue
		}
		sum := 0
		for i, x := range pool {
			if set>>i&1 == 1 {
				sum += x
			}
		}
		sets++
		if sum >= least {
			great++
		}
	}
	return big.NewRat(int64(great), int64(sets))
}

// P3.4: how likely a sum is, against all sets, however many numbers there are.
func TestExchange(t *testing.T) {
	r := rand.New(rand.NewSource(5))
	for n := 2; n <= stability.MaxPool; n++ {
		for at := 1; at < n; at++ {
			for _, size := range []int{0, 1, 3, 1000, 1000000000000} {
				l := make([]int, n)
				for i := range l {
					l[i] = r.Intn(2*size+1) - size
				}
				if c, e := stability.Exchange(l[:at], l[at:]); e != api.OK || !equal(c, slowExchange(l[:at], l[at:])) {
					t.Fatal(l[:at], l[at:], c, e)
				}
			}
		}
	}
}

// P3.4: the chapter's fourth example, and others by hand: equal numbers at two
// places are two numbers.
func TestExchangeExamples(t *testing.T) {
	for i, c := range []struct {
		a, b []int
		want api.Ratio
	}{
		{[]int{5, 6}, []int{1, 2}, ratio(1, 6)},
		{[]int{1, 2}, []int{5, 6}, ratio(1, 1)},
		{[]int{6}, []int{6}, ratio(1, 1)},
		{[]int{6}, []int{5, 6}, ratio(2, 3)},
		{[]int{6}, []int{-5, -5, -5}, ratio(1, 4)},
		{[]int{3, 3}, []int{3, 1}, ratio(1, 2)},
		{[]int{1, 6}, []int{2, 5}, ratio(2, 3)},
		{[]int{-1}, []int{-2}, ratio(1, 2)},
		{[]int{1, 1, 1, 1, 1, 1, 1, 1}, make([]int, 8), ratio(1, 12870)},
		{[]int{1000000000000, 1000000000000}, []int{-1000000000000}, ratio(1, 3)},
	} {
		if x, e := stability.Exchange(c.a, c.b); x != c.want || e != api.OK {
			t.Error(i, x, e)
		}
	}
}

// P3.4: the errors of Exchange in their order.
func TestExchangeErrors(t *testing.T) {
	many := make([]int, 17)
	many[3] = math.MaxInt
	for i, c := range []struct {
		a, b []int
		want api.Errno
	}{
		{nil, nil, api.ErrArg},
		{nil, many, api.ErrArg},
		{many, nil, api.ErrArg},
		{[]int{}, []int{1}, api.ErrArg},
		{[]int{1}, []int{}, api.ErrArg},
		{[]int{math.MaxInt}, nil, api.ErrArg},
		{many[:8], many[:9], api.ErrMany},
		{many[:16], many[:1], api.ErrMany},
		{many[:1], many[:16], api.ErrMany},
		{many[:1], many, api.ErrMany},
		{many[:8], many[8:16], api.ErrRange},
		{many[8:16], many[:8], api.ErrRange},
		{many[8:16], many[8:16], api.OK},
		{[]int{1000000000001}, []int{1}, api.ErrRange},
		{[]int{1}, []int{0, -1000000000001}, api.ErrRange},
		{[]int{1}, []int{math.MinInt}, api.ErrRange},
		{[]int{1000000000000}, []int{-1000000000000}, api.OK},
	} {
		if x, e := stability.Exchange(c.a, c.b); e != c.want || e != api.OK && x != (api.Ratio{}) {
			t.Error(i, x, e)
		}
	}
}
