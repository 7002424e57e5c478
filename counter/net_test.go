package counter_test

import (
	"math"
	"math/rand"
	"slices"
	"testing"

	"meridian/api"
	"meridian/counter"
)

func bound(a, b, lo, hi int) counter.Bound { return counter.Bound{A: a, B: b, Span: span(lo, hi)} }

// triangle is the net of the chapter's example 5.
func triangle(lo int) []counter.Bound {
	return []counter.Bound{bound(0, 1, 1, 3), bound(1, 2, 1, 3), bound(0, 2, lo, 9)}
}

// anyNet is a net of some clocks, with bounds about numbers that the clocks may
// have; each of the spans is wrong with a chance of one in wrong.
func anyNet(r *rand.Rand, n, count, size, wrong int) []counter.Bound {
	x := make([]int, n)
	for i := range x {
		x[i] = r.Intn(size)
	}
	l := make([]counter.Bound, 0, count)
	for range count {
		a := r.Intn(n)
		b := (a + 1 + r.Intn(n-1)) % n
		d := x[a] - x[b]
		if wrong > 0 && r.Intn(wrong) == 0 {
			d = min(max(d+r.Intn(size)-size/2, -phase), phase)
		}
		l = append(l, bound(a, b, max(d-r.Intn(size), -phase), min(d+r.Intn(size), phase)))
	}
	return l
}

// fulfils reports whether numbers of the clocks are a solution.
func fulfils(l []counter.Bound, x []int) bool {
	for _, b := range l {
		if d := x[b.A] - x[b.B]; d < b.Span.Lo || d > b.Span.Hi {
			return false
		}
	}
	return true
}

// slowNarrow tries all numbers from 0 to most for the clocks; it returns the
// greatest differences, and whether there is a solution.
func slowNarrow(n int, l []counter.Bound, most int) ([][]int, bool) {
	greatest := make([][]int, n)
	for a := range greatest {
		greatest[a] = slices.Repeat([]int{math.MinInt}, n)
	}
	x := make([]int, n)
	found := false
	for {
		if fulfils(l, x) {
			found = true
			for a := range x {
				for b := range x {
					greatest[a][b] = max(greatest[a][b], x[a]-x[b])
				}
			}
		}
		i := 0
		for ; i < n && x[i] == most; i++ {
			x[i] = 0
		}
		if i == n {
			return greatest, found
		}
		x[i]++
	}
}

// P2.4: the narrowest matrix, against all solutions with small numbers.
func TestNarrowSmall(t *testing.T) {
	r := rand.New(rand.NewSource(8))
	solved, failed := 0, 0
	for range 600 {
		n := 2 + r.Intn(2)
		// Each clock is bound to the one before it, so that no difference is
		// open and all of them are at most 8.
		l := anyNet(r, n, r.Intn(7), 4, 1+r.Intn(2))
		for k := 1; k < n; k++ {
			l = append(l, bound(k, k-1, -r.Intn(4)-1, r.Intn(4)+1))
		}
		want, found := slowNarrow(n, l, 9)
		m, e := counter.Narrow(n, l)
		u, e2 := counter.Contradict(n, l)
		if found {
			solved++
			if e != api.OK || !slices.EqualFunc(m, want, slices.Equal) || e2 != api.ErrNone || len(u) != 0 {
				t.Fatal(n, l, m, e, want, u, e2)
			}
			continue
		}
		failed++
		if e != api.ErrEmpty || len(m) != 0 || e2 != api.OK || len(u) > n || !slowContradicts(l, u) {
			t.Fatal(n, l, m, e, u, e2)
		}
	}
	if min(solved, failed) < 100 {
		t.Error("too few of a result", solved, failed)
	}
}

// P2.4, example 5.
func TestNarrowExample(t *testing.T) {
	m, e := counter.Narrow(3, triangle(5))
	if e != api.OK || !slices.EqualFunc(m, [][]int{{0, 3, 6}, {-2, 0, 3}, {-5, -2, 0}}, slices.Equal) {
		t.Error(m, e)
	}
	if m, e := counter.Narrow(3, triangle(7)); e != api.ErrEmpty || len(m) != 0 {
		t.Error(m, e)
	}
	u, e := counter.Contradict(3, triangle(7))
	if e != api.OK || len(u) != 3 || !slowContradicts(triangle(7), u) {
		t.Error(u, e)
	}
}

// P2.4: differences that no bound limits are open, 0 of a clock with itself.
func TestNarrowOpen(t *testing.T) {
	far := []counter.Bound{bound(1, 0, -phase, phase), bound(3, 2, 5, 5)}
	o := counter.Open
	want := [][]int{{0, phase, o, o}, {phase, 0, o, o}, {o, o, 0, -5}, {o, o, 5, 0}}
	if m, e := counter.Narrow(4, far); e != api.OK || !slices.EqualFunc(m, want, slices.Equal) {
		t.Error(m, e)
	}
	for n := 1; n <= 16; n++ {
		m, e := counter.Narrow(n, nil)
		if e != api.OK || len(m) != n {
			t.Fatal(n, m, e)
		}
		for a := range m {
			for b, d := range m[a] {
				if len(m[a]) != n || a == b && d != 0 || a != b && d != 100000000000000000 {
					t.Error(n, m)
				}
			}
		}
	}
}

// P2.4: the ends of a chain of all clocks are as far apart as can be.
func TestNarrowLong(t *testing.T) {
	var l []counter.Bound
	for k := 1; k < 16; k++ {
		l = append(l, bound(k, k-1, phase, phase))
	}
	m, e := counter.Narrow(16, l)
	if e != api.OK {
		t.Fatal(e)
	}
	for a := range m {
		for b, d := range m[a] {
			if d != (a-b)*phase {
				t.Error(a, b, d)
			}
		}
	}
	if _, e := counter.Contradict(16, l); e != api.ErrNone {
		t.Error(e)
	}
	l = append(l, bound(0, 15, -phase, phase))
	if m, e := counter.Narrow(16, l); e != api.ErrEmpty || len(m) != 0 {
		t.Error(e)
	}
	if u, e := counter.Contradict(16, l); e != api.OK || len(u) != 16 || !slowContradicts(l, u) {
		t.Error(u, e)
	}
}

// slowContradicts follows the chapter's words for a contradiction.
func slowContradicts(l []counter.Bound, u []counter.Use) bool {
	sum := 0
	var firsts, seconds []int
	for _, x := range u {
		b := l[x.Bound]
		if x.Up {
			firsts, seconds = append(firsts, b.A), append(seconds, b.B)
			sum += b.Span.Hi
		} else {
			firsts, seconds = append(firsts, b.B), append(seconds, b.A)
			sum -= b.Span.Lo
		}
	}
	return len(u) > 0 && sum < 0 && slices.Equal(seconds, append(firsts[1:], firsts[0]))
}

// P2.5: a net has a solution or a contradiction, never both; the narrowest
// matrix fulfils the triangle inequality, and its bounds are reached.
func TestNets(t *testing.T) {
	r := rand.New(rand.NewSource(9))
	solved, failed := 0, 0
	for range 2000 {
		n := 2 + r.Intn(15)
		l := anyNet(r, n, r.Intn(counter.MaxBounds+1), []int{3, 1000, phase}[r.Intn(3)], 40*r.Intn(3))
		m, e := counter.Narrow(n, l)
		u, e2 := counter.Contradict(n, l)
		if e == api.OK {
			solved++
			if e2 != api.ErrNone || len(u) != 0 {
				t.Fatal(n, l, u, e2)
			}
			isNarrowest(t, l, m)
			continue
		}
		failed++
		if e != api.ErrEmpty || len(m) != 0 || e2 != api.OK || len(u) > n || !slowContradicts(l, u) {
			t.Fatal(n, l, m, e, u, e2)
		}
		if e := counter.Refute(n, l, u); e != api.OK {
			t.Fatal(n, l, u, e)
		}
	}
	if min(solved, failed) < 300 {
		t.Error("too few of a result", solved, failed)
	}
}

// isNarrowest fails if a number of a matrix is not reached by a solution, or
// more than two others together.
func isNarrowest(t *testing.T, l []counter.Bound, m [][]int) {
	t.Helper()
	for b := range m {
		// The clocks as far above b as they can be, and those that can be any
		// distance above it far above it, are a solution.
		x := make([]int, len(m))
		for a := range m {
			x[a] = m[a][b]
		}
		for _, y := range l {
			if (x[y.A] == counter.Open) != (x[y.B] == counter.Open) {
				t.Fatal(l, m)
			}
			if d := x[y.A] - x[y.B]; x[y.A] != counter.Open && (d < y.Span.Lo || d > y.Span.Hi) {
				t.Fatal(l, m)
			}
		}
		for a := range m {
			for c := range m {
				if m[a][b] < counter.Open && m[b][c] < counter.Open && m[a][c] > m[a][b]+m[b][c] {
					t.Fatal(l, m)
				}
			}
		}
	}
}

// P2.4, P9: nets that contradict themselves everywhere, by as much as can be.
func TestWorstNets(t *testing.T) {
	for _, hi := range []int{-phase, -phase + 1, -1, phase} {
		var up, round []counter.Bound
		for a := range 16 {
			for b := range 16 {
				if a != b {
					up = append(up, bound(a, b, -phase, hi))
					round = append(round, bound(a, b, -hi, phase))
				}
			}
		}
		for _, l := range [][]counter.Bound{up, round, slices.Repeat(up[:3], 80), append(slices.Clone(up[:120]), round[120:]...)} {
			m, e := counter.Narrow(16, l)
			u, e2 := counter.Contradict(16, l)
			if e == api.OK && e2 == api.ErrNone {
				isNarrowest(t, l, m)
				continue
			}
			if e != api.ErrEmpty || e2 != api.OK || len(u) > 16 || !slowContradicts(l, u) {
				t.Error(hi, e, u, e2)
			}
		}
	}
}

// P2.4: what is a contradiction, and what is none.
func TestRefute(t *testing.T) {
	two := []counter.Bound{bound(0, 1, 5, 9), bound(1, 0, -4, 9), bound(0, 1, 1, 4), bound(1, 2, 0, 0)}
	up := func(l ...int) []counter.Use {
		var u []counter.Use
		for _, b := range l {
			u = append(u, counter.Use{Bound: max(b, -b) - 1, Up: b > 0})
		}
		return u
	}
	for i, x := range []struct {
		l    []counter.Bound
		u    []counter.Use
		want api.Errno
	}{
		{triangle(7), up(-3, 1, 2), api.OK},
		{triangle(7), up(1, 2, -3), api.OK},
		{triangle(7), up(2, -3, 1), api.OK},
		{triangle(7), up(1, 2, -3, 1, 2, -3), api.OK},
		{triangle(7), up(1, -1, 1, 2, -3), api.ErrFalse}, // the sum is 1
		{triangle(6), up(-3, 1, 2), api.ErrFalse},        // the sum is 0
		{triangle(7), up(-3, 2, 1), api.ErrFalse},
		{triangle(7), up(1, 2), api.ErrFalse},
		{triangle(7), up(-3), api.ErrFalse},
		{triangle(7), up(-3, -3), api.ErrFalse},
		{triangle(7), up(3, -2, -1), api.ErrFalse}, // a cycle, but its sum is 7
		{triangle(7), nil, api.ErrFalse},
		{triangle(7), []counter.Use{}, api.ErrFalse},
		{triangle(7), []counter.Use{{Bound: 3}}, api.ErrFalse},
		{triangle(7), []counter.Use{{Bound: -1}}, api.ErrFalse},
		{triangle(7), []counter.Use{{Bound: 2}, {Bound: 0, Up: true}, {Bound: math.MaxInt, Up: true}}, api.ErrFalse},
		{triangle(7), []counter.Use{{Bound: math.MinInt}, {Bound: 0, Up: true}, {Bound: 1, Up: true}}, api.ErrFalse},
		{nil, []counter.Use{{Bound: 0}}, api.ErrFalse},
		{two, up(-1, 3), api.OK},
		{two, up(3, -1), api.OK},
		{two, up(-1, -2), api.OK},         // 1 less 0 at most -5, 0 less 1 at most 4
		{two, up(-3, 3), api.ErrFalse},    // -1 and 4
		{two, up(3, 4, -1), api.ErrFalse}, // it does not close
		{two, up(3, 4, -4, -1), api.OK},
	} {
		if e := counter.Refute(3, x.l, x.u); e != x.want {
			t.Error(i, e)
		}
	}
	long := slices.Repeat(up(-1, 3), 120)
	if e := counter.Refute(3, two, long); e != api.OK {
		t.Error(e)
	}
	if e := counter.Refute(3, two, append(long, long[0])); e != api.ErrMany {
		t.Error(e)
	}
}

// P2.4: the errors of nets in their order, and with them nothing else.
func TestNetErrors(t *testing.T) {
	good := bound(1, 0, -5, 5)
	long := slices.Repeat([]counter.Bound{good}, counter.MaxBounds+1)
	uses := make([]counter.Use, counter.MaxBounds+1)
	bad := bound(0, 0, 0, 0)
	for i, x := range []struct {
		n    int
		l    []counter.Bound
		want api.Errno
	}{
		{0, append(long, bad), api.ErrArg}, {17, append(long, bad), api.ErrArg}, {-1, nil, api.ErrArg}, {math.MinInt, nil, api.ErrArg}, {math.MaxInt, nil, api.ErrArg},
		{2, append([]counter.Bound{bad}, long...), api.ErrMany}, {1, long, api.ErrMany},
		{2, long[1:], api.OK}, {1, nil, api.OK},
		{1, []counter.Bound{good}, api.ErrRange},
		{2, []counter.Bound{good, bad}, api.ErrRange},
		{2, []counter.Bound{bound(2, 0, 0, 0)}, api.ErrRange}, {2, []counter.Bound{bound(0, 2, 0, 0)}, api.ErrRange},
		{2, []counter.Bound{bound(-1, 0, 0, 0)}, api.ErrRange}, {2, []counter.Bound{bound(0, -1, 0, 0)}, api.ErrRange},
		{2, []counter.Bound{bound(math.MinInt, math.MaxInt, 0, 0)}, api.ErrRange},
		{2, []counter.Bound{bound(0, 1, 1, 0)}, api.ErrRange},
		{2, []counter.Bound{bound(0, 1, -phase-1, 0)}, api.ErrRange}, {2, []counter.Bound{bound(0, 1, 0, phase+1)}, api.ErrRange},
		{2, []counter.Bound{bound(0, 1, math.MinInt, math.MaxInt)}, api.ErrRange},
		{2, []counter.Bound{bound(0, 1, phase+1, phase+1)}, api.ErrRange}, {2, []counter.Bound{bound(0, 1, -phase-1, -phase-1)}, api.ErrRange},
		{2, []counter.Bound{bound(0, 1, -phase, -phase)}, api.OK}, {2, []counter.Bound{bound(0, 1, phase, phase)}, api.OK},
		{2, []counter.Bound{bound(0, 1, 5, 9), good}, api.OK},
	} {
		if m, e := counter.Narrow(x.n, x.l); e != x.want || e != api.OK && len(m) != 0 {
			t.Error(i, m, e)
		}
		want := x.want
		if want == api.OK {
			want = api.ErrNone
		}
		if u, e := counter.Contradict(x.n, x.l); e != want || len(u) != 0 {
			t.Error(i, u, e)
		}
		if x.want == api.OK {
			want = api.ErrMany
		}
		if e := counter.Refute(x.n, x.l, uses); e != want {
			t.Error(i, e)
		}
		if x.want == api.OK {
			want = api.ErrFalse
		}
		if e := counter.Refute(x.n, x.l, nil); e != want {
			t.Error(i, e)
		}
	}
}
