package standard_test

import (
	"math"
	"math/big"
	"math/rand"
	"slices"
	"strings"
	"testing"

	"meridian/api"
	"meridian/standard"
)

// P5.6: the value of a budget is that of the expression, its variance the sum of
// the lines, the slope of each line that of Slope; a Spread of 0 contributes
// nothing, and twice a Spread contributes four times as much.
func TestSpreads(t *testing.T) {
	r := rand.New(rand.NewSource(9))
	tried := 0
	for range 50000 {
		q := anyQuantities(r, 1+r.Intn(20))
		l := anyNodes(r, q)
		b, e := standard.Account(l, q)
		if e != api.OK || len(b.Lines) == 0 {
			continue
		}
		if v, e := standard.Evaluate(l, q); v != b.Value || e != api.OK {
			t.Fatal(l, q, b, v, e)
		}
		sum := new(big.Rat)
		for _, x := range b.Lines {
			if s, e := standard.Slope(l, q, x.Name); s != x.Slope || e != api.OK {
				t.Fatal(l, q, x, s, e)
			}
			sum.Add(sum, rat(x.Part))
		}
		if !equal(b.Variance, sum) {
			t.Fatal(l, q, b, sum)
		}
		i := r.Intn(len(b.Lines))
		for _, factor := range []int{0, 2} {
			tried += spread(t, l, q, b, i, factor)
		}
	}
	if tried < 1000 {
		t.Error("too few budgets", tried)
	}
}

// spread checks a budget in which one line has a factor for its Spread; it
// returns 1 if there is one.
func spread(t *testing.T, l []standard.Node, q []standard.Quantity, b standard.Budget, i, factor int) int {
	t.Helper()
	other := slices.Clone(q)
	at := slices.IndexFunc(q, func(x standard.Quantity) bool { return x.Name == b.Lines[i].Name })
	wider := times(rat(q[at].Spread), big.NewRat(int64(factor), 1))
	other[at].Spread = ratio(int(wider.Num().Int64()), int(wider.Denom().Int64()))
	c, e := standard.Account(l, other)
	if e == api.ErrLarge {
		return 0
	}
	want := times(rat(b.Lines[i].Part), big.NewRat(int64(factor*factor), 1))
	if e != api.OK || c.Value != b.Value || len(c.Lines) != len(b.Lines) || !equal(c.Lines[i].Part, want) {
		t.Fatal(l, q, b, c, e, want)
	}
	for j := range c.Lines {
		if j != i && c.Lines[j] != b.Lines[j] {
			t.Fatal(l, q, b, c)
		}
	}
	return 1
}

// P5.6: if an expression is linear in a quantity, its slope is by how much its
// value is greater if the quantity is 1 greater.
func TestLinear(t *testing.T) {
	r := rand.New(rand.NewSource(10))
	tried := 0
	for range 5000 {
		q := []standard.Quantity{quantity("x", anyRatio(r, 20), whole(0)), quantity("y", anyRatio(r, 20), whole(0)), quantity("z", anyRatio(r, 20), whole(0))}
		l := parsed(t, []string{"x", "y", "-x+y", "y*x-z", "(x+y)/z", "z^2*(x-y)", "y-(z-x/7)*y", "3*x-x*y-(-x)", "y/z"}[r.Intn(9)])
		slope, e := standard.Slope(l, q, "x")
		before, f := standard.Evaluate(l, q)
		q[0].Value.N += q[0].Value.D
		after, g := standard.Evaluate(l, q)
		if e != api.OK || f != api.OK || g != api.OK {
			continue
		}
		tried++
		if !equal(slope, minus(rat(after), rat(before))) {
			t.Fatal(l, q, slope, before, after)
		}
	}
	if tried < 1000 {
		t.Error("too few expressions", tried)
	}
}

// P5.6: the weighted mean is between the least and the greatest value, and its
// variance is not greater than any; if all values change by the same, it does
// too, and nothing else changes.
func TestMeanBetween(t *testing.T) {
	r := rand.New(rand.NewSource(11))
	tried := 0
	for range 20000 {
		l := anyEstimates(r, 1+r.Intn(30))
		m, chi, e := standard.Mean(l)
		if e != api.OK {
			continue
		}
		low, high := rat(l[0].Value), rat(l[0].Value)
		by := r.Intn(201) - 100
		var moved []standard.Estimate
		for _, x := range l {
			if rat(x.Value).Cmp(low) < 0 {
				low = rat(x.Value)
			}
			if rat(x.Value).Cmp(high) > 0 {
				high = rat(x.Value)
			}
			if n, _ := standard.Compare(m.Variance, x.Variance); n > 0 {
				t.Fatal(l, m)
			}
			moved = append(moved, estimate(ratio(x.Value.N+by*x.Value.D, x.Value.D), x.Variance))
		}
		if rat(m.Value).Cmp(low) < 0 || rat(m.Value).Cmp(high) > 0 || chi.N < 0 {
			t.Fatal(l, m, chi)
		}
		n, same, e := standard.Mean(moved)
		if e == api.ErrLarge {
			continue
		}
		tried++
		if e != api.OK || n != estimate(ratio(m.Value.N+by*m.Value.D, m.Value.D), m.Variance) || same != chi {
			t.Fatal(l, m, n, by, e)
		}
	}
	if tried < 1000 {
		t.Error("too few means", tried)
	}
}

// R4: no argument is changed, and results share no memory.
func TestMemory(t *testing.T) {
	text := "a*b-c^2"
	l, again := parsed(t, text), parsed(t, text)
	q := abc()
	standard.Format(l)
	standard.Evaluate(l, q)
	standard.Slope(l, q, "b")
	b, _ := standard.Account(l, q)
	other, _ := standard.Account(l, q)
	b.Lines[0].Name = "spoilt"
	if other.Lines[0].Name != "a" || !slices.Equal(q, abc()) || !slices.Equal(l, again) {
		t.Error("an argument is changed, or shared", other, q, l)
	}
	l[0].Name = "z"
	if again[0].Name != "a" || parsed(t, text)[0].Name != "a" {
		t.Error("nodes are shared")
	}
	estimates := []standard.Estimate{estimate(whole(1), whole(1)), estimate(whole(2), whole(1)), estimate(whole(3), whole(1))}
	kept := slices.Clone(estimates)
	standard.Mean(estimates)
	for i := range estimates {
		standard.Without(estimates, i)
	}
	if !slices.Equal(estimates, kept) {
		t.Error("an argument is changed", estimates)
	}
}

// P9: nothing panics, whatever the arguments.
func TestAnyArguments(t *testing.T) {
	numbers := []int{math.MinInt, math.MinInt + 1, -next, -part, -1, 0, 1, 2, 3, 39, 40, 41, part, next, 1 << 62, math.MaxInt}
	r := rand.New(rand.NewSource(12))
	any := func() int { return numbers[r.Intn(len(numbers))] }
	fraction := func() api.Ratio { return ratio(any(), any()) }
	names := []string{"", "a", "b", "A", "\x00", "abcdefghijklm", strings.Repeat("z", 100000)}
	for range 20000 {
		standard.Lowest(any(), any())
		a, b := fraction(), fraction()
		standard.Add(a, b)
		standard.Multiply(a, b)
		standard.Compare(a, b)
		var l []standard.Node
		var q []standard.Quantity
		var estimates []standard.Estimate
		for range r.Intn(5) {
			l = append(l, standard.Node{Op: standard.Op(r.Intn(11) - 1), Left: r.Intn(4) - 1, Right: r.Intn(4) - 1, Name: names[r.Intn(3)], Value: whole(any())})
			q = append(q, quantity(names[r.Intn(3)], whole(any()), ratio(1, any())))
			estimates = append(estimates, estimate(whole(any()), ratio(1, any())))
		}
		if r.Intn(2) == 0 {
			l = append(l, standard.Node{Op: standard.Op(any()), Left: any(), Right: any(), Name: names[r.Intn(7)], Value: fraction()})
			q = append(q, quantity(names[r.Intn(7)], fraction(), fraction()))
			estimates = append(estimates, estimate(fraction(), fraction()))
		}
		standard.Format(l)
		standard.Evaluate(l, q)
		standard.Slope(l, q, names[r.Intn(7)])
		standard.Account(l, q)
		standard.Mean(estimates)
		standard.Without(estimates, any())
		standard.Without(estimates, r.Intn(6))
	}
	for _, s := range names {
		standard.Parse(s)
	}
	for range 20000 {
		s := make([]byte, r.Intn(20))
		r.Read(s)
		standard.Parse(string(s))
	}
}
