package stability_test

import (
	"math"
	"math/big"
	"math/rand"
	"slices"
	"testing"

	"meridian/api"
	"meridian/stability"
)

// changed is a series with phases that come from a place and a phase.
func changed(s stability.Series, change func(i, x int) int) stability.Series {
	c := stability.Series{Tau: s.Tau}
	for i, x := range s.X {
		c.X = append(c.X, change(i, x))
	}
	return c
}

// P3.5: a line that is added changes no variance, a parabola not the Hadamard
// variance, a factor all of them by its square.
func TestChangesOfPhases(t *testing.T) {
	r := rand.New(rand.NewSource(6))
	for range 500 {
		s := anySeries(r, 7+r.Intn(stability.MaxPoints-6), 1000)
		m := 1 + r.Intn(min(stability.MaxStep, (len(s.X)-1)/3))
		a, b, c := r.Intn(2001)-1000, r.Intn(201)-100, 1+r.Intn(20)
		line := changed(s, func(i, x int) int { return x + a + b*i })
		parabola := changed(s, func(i, x int) int { return x + a + b*i + c*i*i })
		scaled := changed(s, func(_, x int) int { return -c * x })
		for _, v := range all() {
			want, e := v.f(s, m)
			if e != api.OK {
				t.Fatal(v.name, s, m, e)
			}
			if got, e := v.f(line, m); got != want || e != api.OK {
				t.Fatal("line", v.name, s, m, got, want, e)
			}
			got, e := v.f(parabola, m)
			if e != api.OK || (got == want) != (v.name == "Hadamard") {
				t.Fatal("parabola", v.name, s, m, got, want, e)
			}
			square := new(big.Rat).Mul(rat(want), new(big.Rat).SetInt(times(c, c)))
			if got, e := v.f(scaled, m); e != api.OK || !equal(got, square) {
				t.Fatal("factor", v.name, s, m, c, got, want, e)
			}
		}
	}
}

// P3.5: phases in the opposite order have the same variances but that of Allan,
// which looks at some differences only.
func TestOppositeOrder(t *testing.T) {
	r := rand.New(rand.NewSource(7))
	for range 500 {
		s := anySeries(r, 7+r.Intn(stability.MaxPoints-6), most)
		m := 1 + r.Intn(min(stability.MaxStep, (len(s.X)-1)/3))
		back := changed(s, func(i, _ int) int { return s.X[len(s.X)-1-i] })
		for _, v := range all()[1:] {
			want, e := v.f(s, m)
			got, f := v.f(back, m)
			if got != want || e != api.OK || f != api.OK {
				t.Fatal(v.name, s, m, got, want, e, f)
			}
		}
	}
}

// P3.5: for 1 three variances are equal; the Allan variance for m is that of
// the thinned series for 1.
func TestEqualVariances(t *testing.T) {
	r := rand.New(rand.NewSource(8))
	for range 500 {
		s := anySeries(r, 3+r.Intn(stability.MaxPoints-2), most)
		one, _ := stability.Allan(s, 1)
		for _, v := range all()[1:3] {
			if got, e := v.f(s, 1); got != one || e != api.OK {
				t.Fatal(v.name, s, got, one, e)
			}
		}
		s.Tau = 1 + r.Intn(31)
		m := 1 + r.Intn(stability.MaxStep)
		thin, e := stability.Thin(s, m)
		if e != api.OK {
			t.Fatal(s, m, e)
		}
		want, expected := stability.Allan(s, m)
		if got, e := stability.Allan(thin, 1); got != want || e != expected {
			t.Fatal(s, m, got, e, want, expected)
		}
	}
}

// P3.5: no line leaves less than that of Fit.
func TestNoLineLeavesLess(t *testing.T) {
	r := rand.New(rand.NewSource(9))
	for range 500 {
		s := anySeries(r, 2+r.Intn(47), 1+r.Intn(most))
		l, _ := stability.Fit(s)
		rest, e := stability.Rest(s)
		if e != api.OK {
			t.Fatal(s, e)
		}
		for range 20 {
			offset := new(big.Rat).Add(rat(l.Offset), big.NewRat(int64(r.Intn(11)-5), int64(1+r.Intn(1000))))
			slope := new(big.Rat).Add(rat(l.Slope), big.NewRat(int64(r.Intn(11)-5), int64(1+r.Intn(1000))))
			if left := leaves(s, offset, slope); left.Cmp(rat(rest)) < 0 {
				t.Fatal(s, l, rest, offset, slope, left)
			}
		}
	}
}

// R4: no argument is changed, and results share no memory.
func TestMemory(t *testing.T) {
	s := series(10, 5, 3, 9, 1, 7, 2, 8, 8)
	kept := slices.Clone(s.X)
	for _, v := range all() {
		v.f(s, 2)
	}
	stability.Fit(s)
	stability.Rest(s)
	stability.Median(s.X, ratio(1, 2))
	stability.Exchange(s.X[:3], s.X[5:])
	squares, _ := stability.Squares(s, 1)
	squares[0]++
	for m := range 3 {
		if thin, e := stability.Thin(s, m+1); e == api.OK {
			thin.X[0]++
			_ = append(thin.X[:1], 99)
		}
	}
	if !slices.Equal(s.X, kept) {
		t.Error("an argument is changed", s.X)
	}
}

// P9: nothing panics, whatever the arguments.
func TestAnyArguments(t *testing.T) {
	edges := []int{math.MinInt, math.MinInt + 1, -most, -1, 0, 1, 2, 3, 32, 33, 40, 41, 1000, most, 1 << 62, math.MaxInt}
	for _, a := range edges {
		for _, b := range edges {
			for _, n := range []int{0, 1, 2, 3, 48, 128, 129} {
				for _, s := range []stability.Series{series(a, make([]int, n)...), series(1, slices.Repeat([]int{a}, n)...), series(a, slices.Repeat([]int{b}, n)...)} {
					for _, v := range all() {
						v.f(s, b)
					}
					stability.Check(s)
					stability.Squares(s, b)
					stability.Thin(s, b)
					stability.Fit(s)
					stability.Rest(s)
					stability.Median(s.X, ratio(a, b))
					stability.Median(s.X, ratio(1, 2))
				}
			}
			stability.Chance(a, b)
			stability.Exchange([]int{a}, []int{b, a})
		}
	}
}
