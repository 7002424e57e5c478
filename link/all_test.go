package link_test

import (
	"math"
	"math/rand"
	"slices"
	"testing"

	"meridian/api"
	"meridian/link"
)

// R4: no argument is changed.
func TestArguments(t *testing.T) {
	a, b := longLog(0), longLog(0)
	slices.Reverse(b)
	keptA, keptB := slices.Clone(a), slices.Clone(b)
	link.CheckLog(a)
	link.Common(a, b, 1, 2)
	if !slices.Equal(a, keptA) || !slices.Equal(b, keptB) {
		t.Error("a log is changed")
	}
	readings := []int{100, 250, 180, 130}
	link.Travel(readings)
	if !slices.Equal(readings, []int{100, 250, 180, 130}) {
		t.Error(readings)
	}
	for _, bound := range []int{1, 2} {
		n := three(bound)
		l, x, weights := steps(1, 2, -3), []int{0, -12, -18}, []int{3, 1, 2}
		link.Check(n)
		link.Connected(n)
		link.Bounds(n)
		link.Broken(n)
		link.Close(n, l)
		link.Triangles(n)
		link.Holds(n, x)
		link.Solve(n)
		fit, _ := link.Fit(n, weights)
		kept := slices.Clone(fit)
		link.CheckFit(n, weights, fit)
		if n.Labs != 3 || !slices.Equal(n.Links, three(bound).Links) || !slices.Equal(fit, kept) {
			t.Error(n, fit)
		}
		if !slices.Equal(l, steps(1, 2, -3)) || !slices.Equal(x, []int{0, -12, -18}) || !slices.Equal(weights, []int{3, 1, 2}) {
			t.Error(l, x, weights)
		}
	}
}

// R4: lists of results share no memory.
func TestMemory(t *testing.T) {
	twice := three(2)
	twice.Links = append(twice.Links, twice.Links...)
	l, _ := link.Triangles(twice)
	again, _ := link.Triangles(twice)
	for i := range l {
		_ = append(l[i], link.Step{Link: 9})
		l[i][2].Link = -1
		for k := range again {
			if again[k][2].Link < 0 || k > i && !slices.Equal(l[k], again[k]) {
				t.Fatal(i, k, l)
			}
		}
	}
	b := bounds(t, three(4))
	kept := bounds(t, three(4))
	for i := range b {
		_ = append(b[i], span(9, 9))
		b[i][1] = span(7, 7)
		for k := i + 1; k < 3; k++ {
			if !slices.Equal(b[k], kept[k]) {
				t.Fatal(i, k, b)
			}
		}
	}
	if !slices.EqualFunc(kept, bounds(t, three(4)), slices.Equal) {
		t.Error(kept)
	}
}

// P9: nothing panics, whatever the arguments.
func TestAnyArguments(t *testing.T) {
	numbers := []int{math.MinInt, math.MinInt + 1, -time - 1, -time, -diff - 1, -diff, -1, 0, 1, 2, 3, 10, 99, diff, diff + 1, time, time + 1, 1 << 62, math.MaxInt}
	r := rand.New(rand.NewSource(18))
	any := func() int { return numbers[r.Intn(len(numbers))] }
	few := func() int {
		if r.Intn(30) == 0 {
			return any()
		}
		return r.Intn(4)
	}
	for range 20000 {
		var a, b []link.Track
		var x, weights []int
		var fit []api.Ratio
		var l []link.Step
		n := link.Net{Labs: few()}
		for range r.Intn(6) {
			a = append(a, link.Track{Sat: few(), Second: few(), Value: any()})
			b = append(b, link.Track{Sat: few(), Second: few(), Value: few()})
			x = append(x, few())
			weights = append(weights, few())
			fit = append(fit, ratio(few(), few()))
			l = append(l, link.Step{Link: few(), Back: r.Intn(2) > 0})
			n.Links = append(n.Links, link.Link{A: few(), B: few(), Diff: few(), Bound: few()})
		}
		link.CheckLog(a)
		link.Common(a, b, any(), any())
		link.Common(b, a[:r.Intn(len(a)+1)], few(), few())
		link.TwoWay(link.Ends{AtA: any(), AtB: any(), Least: any(), Skew: any(), Error: any()})
		link.Travel(x)
		link.Check(n)
		link.Connected(n)
		link.Bounds(n)
		link.Broken(n)
		link.Close(n, l)
		link.Triangles(n)
		link.Holds(n, x)
		link.Solve(n)
		link.Fit(n, weights)
		link.CheckFit(n, weights, fit)
	}
}
