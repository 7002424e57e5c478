package link_test

import (
	"math"
	"math/rand"
	"slices"
	"testing"

	"meridian/api"
	"meridian/link"
)

// broken checks what Broken returns for a net that is not consistent.
func broken(t *testing.T, n link.Net) {
	t.Helper()
	l, e := link.Broken(n)
	if e != api.OK || !isBroken(n, l) || !isSimple(n, l) {
		t.Fatal(n, l, e)
	}
	if c, e := link.Close(n, l); e != api.OK || c != sums(n, l) {
		t.Fatal(n, l, c, e)
	}
}

// P7.2: the limits of a net, at them and beyond them, and the order of errors.
func TestCheck(t *testing.T) {
	const least, most = math.MinInt, math.MaxInt
	good, bad := link.Link{A: 1, B: 0}, link.Link{}
	full := slices.Repeat([]link.Link{good}, 40)
	for i, x := range []struct {
		n    link.Net
		want api.Errno
	}{
		{link.Net{}, api.ErrMany}, {net(13), api.ErrMany}, {net(-1), api.ErrMany}, {net(least), api.ErrMany}, {net(most), api.ErrMany},
		{net(1), api.OK}, {net(12), api.OK}, {link.Net{Labs: 2, Links: []link.Link{}}, api.OK},
		{net(0, bad), api.ErrMany}, {net(13, bad), api.ErrMany},
		{net(2, full...), api.OK}, {net(2, append(full, good)...), api.ErrMany}, {net(2, append([]link.Link{bad}, full...)...), api.ErrMany},
		{net(2, good), api.OK}, {net(2, bad), api.ErrLink}, {net(2, good, link.Link{A: 1, B: 1}), api.ErrLink}, {net(1, good), api.ErrLink}, {net(1, bad), api.ErrLink},
		{net(2, link.Link{A: 2}), api.ErrLink}, {net(3, link.Link{A: 2}), api.OK}, {net(2, link.Link{B: 2}), api.ErrLink}, {net(3, link.Link{B: 2}), api.OK}, {net(12, link.Link{A: 11}), api.OK}, {net(12, link.Link{B: 12}), api.ErrLink},
		{net(2, link.Link{A: -1}), api.ErrLink}, {net(2, link.Link{B: -1}), api.ErrLink}, {net(2, link.Link{A: least, B: 1}), api.ErrLink}, {net(2, link.Link{A: 1, B: most}), api.ErrLink},
		{net(2, link.Link{A: most, B: least}), api.ErrLink}, {net(2, link.Link{A: least, B: most}), api.ErrLink}, {net(2, link.Link{A: least, B: least}), api.ErrLink},
		{net(2, link.Link{A: 1, Diff: diff}), api.OK}, {net(2, link.Link{A: 1, Diff: -diff}), api.OK}, {net(2, link.Link{A: 1, Diff: diff + 1}), api.ErrLink}, {net(2, link.Link{A: 1, Diff: -diff - 1}), api.ErrLink},
		{net(2, link.Link{A: 1, Diff: least}), api.ErrLink}, {net(2, link.Link{A: 1, Diff: most}), api.ErrLink},
		{net(2, link.Link{A: 1, Bound: diff}), api.OK}, {net(2, link.Link{A: 1, Bound: diff + 1}), api.ErrLink}, {net(2, link.Link{A: 1, Bound: -1}), api.ErrLink},
		{net(2, link.Link{A: 1, Bound: least}), api.ErrLink}, {net(2, link.Link{A: 1, Bound: most}), api.ErrLink},
	} {
		if e := link.Check(x.n); e != x.want {
			t.Error(i, e)
		}
		if x.want != api.OK {
			invalid(t, x.n, x.want)
		}
	}
}

// invalid looks for the error of a net in all that take one: it comes first,
// with nothing beside it.
func invalid(t *testing.T, n link.Net, want api.Errno) {
	t.Helper()
	is, e := link.Connected(n)
	holds, f := link.Holds(n, nil)
	c, g := link.Close(n, make([]link.Step, 1001))
	if is || e != want || holds || f != want || c != (link.Closure{}) || g != want {
		t.Error(n, is, e, holds, f, c, g)
	}
	b, e := link.Bounds(n)
	x, f := link.Solve(n)
	l, g := link.Broken(n)
	m, h := link.Triangles(n)
	if len(b)+len(x)+len(l)+len(m) != 0 || e != want || f != want || g != want || h != want {
		t.Error(n, b, e, x, f, l, g, m, h)
	}
	fit, e := link.Fit(n, nil)
	f = link.CheckFit(n, nil, nil)
	if len(fit) != 0 || e != want || f != want {
		t.Error(n, fit, e, f)
	}
}

// P7.2: Connected against all ways over a third laboratory.
func TestConnected(t *testing.T) {
	r := rand.New(rand.NewSource(6))
	count := map[bool]int{}
	for range 5000 {
		n := anyNet(r, 1+r.Intn(12), r.Intn(41), 100, 10, 0)
		want := reaches(n)
		count[want]++
		if is, e := link.Connected(n); is != want || e != api.OK {
			t.Fatal(n, is, e)
		}
	}
	if min(count[true], count[false]) < 500 {
		t.Error("too few of a result", count)
	}
	for labs := 1; labs <= 12; labs++ {
		if is, e := link.Connected(net(labs)); is != (labs == 1) || e != api.OK {
			t.Error(labs, is, e)
		}
		// A row of laboratories, whose links are named from its end, and this
		// row without one link.
		var row []link.Link
		for k := labs - 1; k > 0; k-- {
			row = append(row, link.Link{A: k - k%2, B: k - (k+1)%2})
		}
		if is, e := link.Connected(net(labs, row...)); !is || e != api.OK {
			t.Error(labs, is, e)
		}
		for i := range row {
			if is, e := link.Connected(net(labs, slices.Delete(slices.Clone(row), i, i+1)...)); is || e != api.OK {
				t.Error(labs, i, is, e)
			}
		}
	}
}

// P7.2: what is a solution.
func TestHolds(t *testing.T) {
	r := rand.New(rand.NewSource(7))
	count := map[bool]int{}
	for range 20000 {
		n := anyNet(r, 1+r.Intn(4), r.Intn(5), 4, 3, 0)
		x := make([]int, n.Labs)
		for i := range x {
			x[i] = around(r, 3)
		}
		want := isSolution(n, x)
		count[want]++
		if is, e := link.Holds(n, x); is != want || e != api.OK {
			t.Fatal(n, x, is, e)
		}
	}
	if min(count[true], count[false]) < 1000 {
		t.Error("too few of a result", count)
	}
	for i, x := range []struct {
		n    link.Net
		x    []int
		want bool
		e    api.Errno
	}{
		{three(2), []int{0, -12, -18}, true, api.OK}, {three(2), []int{time, time - 12, time - 18}, true, api.OK}, {three(2), []int{0, -12, -17}, false, api.OK}, {three(2), []int{0, -12, -19}, false, api.OK}, {three(2), []int{0, -13, -18}, false, api.OK},
		{net(2), []int{time, -time}, true, api.OK}, {net(2, link.Link{A: 1, Diff: -diff, Bound: diff}), []int{time, -time}, false, api.OK},
		{net(2, link.Link{A: 1, Diff: -diff, Bound: diff}), []int{0, -2 * diff}, true, api.OK}, {net(2, link.Link{A: 1, Diff: -diff, Bound: diff}), []int{0, -2*diff - 1}, false, api.OK},
		{net(2, link.Link{A: 1, Diff: -diff, Bound: diff}), []int{5, 5}, true, api.OK}, {net(2, link.Link{A: 1, Diff: -diff, Bound: diff}), []int{5, 6}, false, api.OK},
		{net(2), []int{time + 1}, false, api.ErrArg}, {net(2), nil, false, api.ErrArg}, {net(2), []int{0, 0, time + 1}, false, api.ErrArg},
		{net(2), []int{time + 1, 0}, false, api.ErrRange}, {net(2), []int{0, -time - 1}, false, api.ErrRange}, {net(2), []int{math.MinInt, math.MaxInt}, false, api.ErrRange},
	} {
		if is, e := link.Holds(x.n, x.x); is != x.want || e != x.e {
			t.Error(i, is, e)
		}
	}
}

// P7.2: what is a cycle, and what it closes to.
func TestClose(t *testing.T) {
	n := three(1)
	n.Links = append(n.Links, link.Link{A: 2, B: 1, Diff: -7, Bound: 3})
	way := steps(1, 2, -3)
	for i, x := range []struct {
		l    []link.Step
		want link.Closure
		e    api.Errno
	}{
		{way, link.Closure{Sum: -5, Budget: 4}, api.OK}, {steps(2, -3, 1), link.Closure{Sum: -5, Budget: 4}, api.OK}, {steps(3, -2, -1), link.Closure{Sum: 5, Budget: 4}, api.OK},
		{steps(1, -4, -3), link.Closure{Sum: -3, Budget: 6}, api.OK}, {steps(1, 2, 4, -1), link.Closure{Sum: -2, Budget: 8}, api.OK}, {steps(2, 4), link.Closure{Sum: -2, Budget: 4}, api.OK}, {steps(-2, 2), link.Closure{Budget: 2}, api.OK},
		{nil, link.Closure{}, api.ErrArg}, {[]link.Step{}, link.Closure{}, api.ErrArg}, {steps(1), link.Closure{}, api.ErrArg}, {steps(1, 2), link.Closure{}, api.ErrArg}, {steps(1, 1), link.Closure{}, api.ErrArg}, {steps(1, 3), link.Closure{}, api.ErrArg},
		{steps(1, -3, 2), link.Closure{}, api.ErrArg}, {steps(1, 2, -3, 1), link.Closure{}, api.ErrArg}, {steps(1, -1, 2), link.Closure{}, api.ErrArg}, {steps(2, 1, -1), link.Closure{}, api.ErrArg},
		{steps(5), link.Closure{}, api.ErrArg}, {[]link.Step{{Link: -1}}, link.Closure{}, api.ErrArg}, {[]link.Step{{Link: math.MinInt}, {Link: math.MaxInt}}, link.Closure{}, api.ErrArg}, {steps(1, 2, -5), link.Closure{}, api.ErrArg},
		{slices.Repeat(steps(1, -1), 500), link.Closure{Budget: 2000}, api.OK}, {append(slices.Repeat(steps(1, -1), 499), steps(2, 4)...), link.Closure{}, api.ErrArg}, {append(slices.Repeat(steps(2, 4), 500), steps(2)...), link.Closure{}, api.ErrMany}, {make([]link.Step, 1001), link.Closure{}, api.ErrMany},
	} {
		if c, e := link.Close(n, x.l); e != x.e || c != x.want {
			t.Error(i, c, e)
		}
	}
	if c, e := link.Close(net(1), steps(1)); e != api.ErrArg || c != (link.Closure{}) {
		t.Error(c, e)
	}
	round := net(2, link.Link{A: 1, Diff: diff, Bound: diff}, link.Link{B: 1, Diff: diff, Bound: diff})
	if c, e := link.Close(round, slices.Repeat(steps(-2, -1), 500)); e != api.OK || c != (link.Closure{Sum: -1000 * diff, Budget: 1000 * diff}) {
		t.Error(c, e)
	}
}

// P7.2: Close against the chapter's words, for any ways.
func TestAnyWays(t *testing.T) {
	r := rand.New(rand.NewSource(8))
	cycles, others := 0, 0
	for range 20000 {
		n := anyNet(r, 2+r.Intn(3), 1+r.Intn(5), 50, 9, 3)
		var l []link.Step
		for range r.Intn(6) {
			l = append(l, link.Step{Link: r.Intn(len(n.Links)), Back: r.Intn(2) > 0})
		}
		c, e := link.Close(n, l)
		if !isCycle(n, l) {
			others++
			if e != api.ErrArg || c != (link.Closure{}) {
				t.Fatal(n, l, c, e)
			}
			continue
		}
		cycles++
		if e != api.OK || c != sums(n, l) {
			t.Fatal(n, l, c, e)
		}
	}
	if min(cycles, others) < 1000 {
		t.Error("too few of a result", cycles, others)
	}
}

// P7.3, example 3.
func TestNetExample(t *testing.T) {
	if c, e := link.Close(three(1), steps(1, 2, -3)); e != api.OK || c != (link.Closure{Sum: -5, Budget: 4}) {
		t.Error(c, e)
	}
	broken(t, three(1))
	if x, e := link.Solve(three(1)); e != api.ErrEmpty || len(x) != 0 {
		t.Error(x, e)
	}
	if l, e := link.Broken(three(2)); e != api.ErrNone || len(l) != 0 {
		t.Error(l, e)
	}
	b := bounds(t, three(2))
	want := [][]api.Span{{{}, span(12, 12), span(18, 18)}, {span(-12, -12), {}, span(6, 6)}, {span(-18, -18), span(-6, -6), {}}}
	if !slices.EqualFunc(b, want, slices.Equal) {
		t.Error(b)
	}
	if x, e := link.Solve(three(2)); e != api.OK || !slices.Equal(x, []int{0, -12, -18}) {
		t.Error(x, e)
	}
}

// P7.3, P7.5: Bounds and Solve against all numbers, and Broken against all
// cycles, for small nets: a net is consistent just if no cycle is broken.
func TestSmallNets(t *testing.T) {
	r := rand.New(rand.NewSource(9))
	solved, failed, wide := 0, 0, 0
	for range 3000 {
		n := joined(r, 2+r.Intn(3), r.Intn(4), 3, 1, 2*r.Intn(3))
		want, is := slowBounds(n, 7*(n.Labs-1)) // a link says 7 at most
		b, e := link.Bounds(n)
		x, f := link.Solve(n)
		if is == hasBroken(n) {
			t.Fatal(n, want)
		}
		if !is {
			failed++
			if e != api.ErrEmpty || f != api.ErrEmpty || len(b)+len(x) != 0 {
				t.Fatal(n, b, e, x, f)
			}
			broken(t, n)
			continue
		}
		solved++
		var highest []int
		for k := range want {
			highest = append(highest, want[k][0].Hi)
			if want[k][0].Lo < want[k][0].Hi {
				wide++
			}
		}
		if e != api.OK || f != api.OK || !slices.EqualFunc(b, want, slices.Equal) || !slices.Equal(x, highest) {
			t.Fatal(n, b, e, x, f, want)
		}
		if l, e := link.Broken(n); e != api.ErrNone || len(l) != 0 {
			t.Fatal(n, l, e)
		}
	}
	if min(solved, failed, wide) < 300 {
		t.Error("too few of a result", solved, failed, wide)
	}
}

// P7.3: a net that is not connected has no bounds, consistent or not; Broken
// looks at all its parts.
func TestApart(t *testing.T) {
	r := rand.New(rand.NewSource(10))
	solved, failed := 0, 0
	for range 3000 {
		n := anyNet(r, 2+r.Intn(4), r.Intn(6), 5, 2, 3)
		if reaches(n) {
			continue
		}
		b, e := link.Bounds(n)
		x, f := link.Solve(n)
		if e != api.ErrState || f != api.ErrState || len(b)+len(x) != 0 {
			t.Fatal(n, b, e, x, f)
		}
		if hasBroken(n) {
			failed++
			broken(t, n)
			continue
		}
		solved++
		if l, e := link.Broken(n); e != api.ErrNone || len(l) != 0 {
			t.Fatal(n, l, e)
		}
	}
	if min(solved, failed) < 100 {
		t.Error("too few of a result", solved, failed)
	}
	for labs := 1; labs <= 12; labs++ {
		if l, e := link.Broken(net(labs)); e != api.ErrNone || len(l) != 0 {
			t.Error(labs, l, e)
		}
	}
	if b, e := link.Bounds(net(1)); e != api.OK || !slices.EqualFunc(b, [][]api.Span{{{}}}, slices.Equal) {
		t.Error(b, e)
	}
	if x, e := link.Solve(net(1)); e != api.OK || !slices.Equal(x, []int{0}) {
		t.Error(x, e)
	}
}

// P7.3, P7.5: in nets up to the limits, each bound is reached by a solution, and
// none is wider than the triangle rule makes it.
func TestLargeNets(t *testing.T) {
	r := rand.New(rand.NewSource(11))
	solved, failed := 0, 0
	for range 3000 {
		size := []int{30, 10000, diff / 2}[r.Intn(3)]
		labs := 2 + r.Intn(11)
		n := joined(r, labs, r.Intn(42-labs), size, size/4, 0)
		for range r.Intn(3) {
			l := &n.Links[r.Intn(len(n.Links))]
			l.Diff = min(max(l.Diff+around(r, 2*size), -diff), diff)
		}
		b, e := link.Bounds(n)
		if e == api.ErrEmpty {
			failed++
			if len(b) != 0 {
				t.Fatal(n, b)
			}
			broken(t, n)
			continue
		}
		solved++
		if e != api.OK {
			t.Fatal(n, e)
		}
		isNarrowest(t, n, b)
	}
	if min(solved, failed) < 300 {
		t.Error("too few of a result", solved, failed)
	}
}

// isNarrowest fails if a bound is not reached by a solution, or a link or two
// bounds together say more than a bound.
func isNarrowest(t *testing.T, n link.Net, b [][]api.Span) {
	t.Helper()
	for k := range b {
		var least, greatest []int
		for i := range b {
			least, greatest = append(least, b[i][k].Lo), append(greatest, b[i][k].Hi)
			for l := range b {
				if b[i][l].Hi > b[i][k].Hi+b[k][l].Hi || b[i][l].Lo < b[i][k].Lo+b[k][l].Lo {
					t.Fatal(n, b)
				}
			}
		}
		for _, x := range [][]int{least, greatest} {
			if is, e := link.Holds(n, x); !is || e != api.OK || x[k] != 0 {
				t.Fatal(n, b, k, e)
			}
		}
		if x, e := link.Solve(n); e != api.OK || k == 0 && !slices.Equal(x, greatest) {
			t.Fatal(n, x, e)
		}
	}
	for _, l := range n.Links {
		if s := b[l.A][l.B]; s.Lo < l.Diff-l.Bound || s.Hi > l.Diff+l.Bound {
			t.Fatal(n, b)
		}
	}
}

// P7.3: a row of all laboratories, as far apart as can be.
func TestLongRow(t *testing.T) {
	for _, way := range []int{1, -1} {
		var row []link.Link
		for k := 11; k > 0; k-- {
			row = append(row, link.Link{A: k, B: k - 1, Diff: way * diff, Bound: diff})
		}
		n := net(12, row...)
		b := bounds(t, n)
		for i := range b {
			for k, s := range b[i] {
				far := 2 * diff * (i - k) * way
				if s != span(min(far, 0), max(far, 0)) {
					t.Error(i, k, s)
				}
			}
		}
		n.Links = append(n.Links, link.Link{A: 0, B: 11, Diff: way * diff})
		if _, e := link.Bounds(n); e != api.ErrEmpty {
			t.Error(e)
		}
		broken(t, n)
		if l, _ := link.Broken(n); len(l) != 12 {
			t.Error(l)
		}
	}
}

// P7.3, P9: nets that are broken everywhere, by as much as can be.
func TestWorstNets(t *testing.T) {
	for _, bound := range []int{0, 1, diff - 1, diff} {
		for _, way := range []int{1, -1} {
			var up []link.Link
			for a := range 12 {
				for b := range 12 {
					if a != b {
						up = append(up, link.Link{A: a, B: b, Diff: way * diff, Bound: bound})
					}
				}
			}
			for from := 0; from+40 <= len(up); from += 23 {
				n := net(12, up[from:from+40]...)
				l, e := link.Broken(n)
				if e == api.OK {
					broken(t, n)
					continue
				}
				if e != api.ErrNone || len(l) != 0 || bound == 0 {
					t.Error(bound, way, from, l, e)
				}
			}
		}
	}
}

// P7.5: with one more link no bound is wider.
func TestOneMore(t *testing.T) {
	r := rand.New(rand.NewSource(12))
	narrower := 0
	for range 3000 {
		labs := 2 + r.Intn(11)
		n := joined(r, labs, r.Intn(15), 50, 20, 0)
		before, e := link.Bounds(n)
		if e != api.OK {
			continue
		}
		n.Links = append(n.Links, anyNet(r, labs, 1, 50, 30, 0).Links...)
		after, e := link.Bounds(n)
		if e == api.ErrEmpty {
			continue
		}
		if e != api.OK {
			t.Fatal(n, e)
		}
		for i := range before {
			for k, s := range after[i] {
				if s.Lo < before[i][k].Lo || s.Hi > before[i][k].Hi {
					t.Fatal(n, before, after)
				}
			}
		}
		if !slices.EqualFunc(before, after, slices.Equal) {
			narrower++
		}
	}
	if narrower < 100 {
		t.Error("too few nets", narrower)
	}
}

// P7.3: Triangles against all lists of three steps.
func TestTriangles(t *testing.T) {
	r := rand.New(rand.NewSource(13))
	some, none := 0, 0
	same := func(l, m []link.Step) bool { return slices.Equal(l, m) }
	for range 1000 {
		n := anyNet(r, 1+r.Intn(1+r.Intn(12)), r.Intn(25), 50, 9, 3)
		want := slowTriangles(n)
		if l, e := link.Triangles(n); e != api.OK || !slices.EqualFunc(l, want, same) {
			t.Fatal(n, l, e, want)
		}
		if len(want) > 1 {
			some++
		} else if len(want) == 0 {
			none++
		}
	}
	if min(some, none) < 200 {
		t.Error("too few of a result", some, none)
	}
	for _, n := range []link.Net{anyNet(r, 3, 40, 50, 9, 3), anyNet(r, 5, 40, 50, 9, 3), anyNet(r, 12, 40, 50, 9, 3)} {
		want := slowTriangles(n)
		if l, e := link.Triangles(n); e != api.OK || !slices.EqualFunc(l, want, same) || n.Labs == 3 && len(l) < 1000 {
			t.Error(n.Labs, len(l), e, len(want))
		}
	}
	if l, e := link.Triangles(three(1)); e != api.OK || len(l) != 1 || !slices.Equal(l[0], steps(1, 2, -3)) {
		t.Error(l, e)
	}
	if l, e := link.Triangles(net(12)); e != api.OK || len(l) != 0 {
		t.Error(l, e)
	}
}
