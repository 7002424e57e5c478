package stamp_test

import (
	"math/big"
	"math/rand"
	"slices"
	"testing"

	"meridian/api"
	"meridian/stamp"
)

// clock is a clock of constant rate: it is ahead by a + b t.
type clock struct{ a, b *big.Rat }

func rat(n, d int) *big.Rat { return big.NewRat(int64(n), int64(d)) }

func whole(n int) *big.Rat { return rat(n, 1) }

func ratOf(r api.Ratio) *big.Rat { return rat(r.N, r.D) }

func (c clock) ahead(at int) *big.Rat {
	x := new(big.Rat).Mul(c.b, whole(at))
	return x.Add(x, c.a)
}

func (c clock) keeps(l []stamp.Check) bool {
	for _, x := range l {
		if y := c.ahead(x.At); y.Cmp(whole(x.Lo)) < 0 || y.Cmp(whole(x.Hi)) > 0 {
			return false
		}
	}
	return true
}

// through is the clock that is ahead by y at the second s, and by z at t.
func through(s, y, t, z int) clock {
	b := rat(z-y, t-s)
	a := new(big.Rat).Sub(whole(y), new(big.Rat).Mul(b, whole(s)))
	return clock{a, b}
}

// corners are clocks that keep the checks and are at an end of two of them, of
// different seconds. All clocks that keep the checks are between them.
func corners(l []stamp.Check) []clock {
	var found []clock
	for _, x := range l {
		for _, y := range l {
			if x.At < y.At {
				for _, c := range []clock{through(x.At, x.Lo, y.At, y.Lo), through(x.At, x.Lo, y.At, y.Hi), through(x.At, x.Hi, y.At, y.Lo), through(x.At, x.Hi, y.At, y.Hi)} {
					if c.keeps(l) {
						found = append(found, c)
					}
				}
			}
		}
	}
	return found
}

func isOneSecond(l []stamp.Check) bool {
	return !slices.ContainsFunc(l, func(c stamp.Check) bool { return c.At != l[0].At })
}

// slowFit is what Audit has to return: the ends by the corners, and the pairs to
// which they belong by going through all of them.
func slowFit(l []stamp.Check) (stamp.Fit, api.Errno) {
	if len(l) == 0 || isOneSecond(l) {
		return stamp.Fit{}, api.ErrNone
	}
	all := corners(l)
	if len(all) == 0 {
		return stamp.Fit{}, api.ErrEmpty
	}
	bySlope := func(c, d clock) int { return c.b.Cmp(d.b) }
	least, most := slices.MinFunc(all, bySlope).b, slices.MaxFunc(all, bySlope).b
	f := stamp.Fit{Least: fraction(least), Most: fraction(most), First: [2]int{-1, -1}, Last: [2]int{-1, -1}}
	for i := len(l) - 1; i >= 0; i-- {
		for k := len(l) - 1; k >= 0; k-- {
			if seconds := l[k].At - l[i].At; seconds > 0 {
				if rat(l[k].Lo-l[i].Hi, seconds).Cmp(least) == 0 {
					f.First = [2]int{i, k}
				}
				if rat(l[k].Hi-l[i].Lo, seconds).Cmp(most) == 0 {
					f.Last = [2]int{i, k}
				}
			}
		}
	}
	return f, api.OK
}

func fraction(x *big.Rat) api.Ratio {
	return ratio(int(x.Num().Int64()), int(x.Denom().Int64()))
}

// anyChecks are such of a clock whose rate is not quite constant, or any ones.
func anyChecks(r *rand.Rand, count int) []stamp.Check {
	var l []stamp.Check
	seconds, wide, a, b := 1+r.Intn(10), 1+r.Intn(12), r.Intn(40)-20, r.Intn(9)-4
	far := r.Intn(20) == 0
	for range count {
		at := r.Intn(seconds)
		lo := a + b*at - r.Intn(wide)
		if r.Intn(30) == 0 {
			lo = r.Intn(40) - 20
		}
		c := check(at, lo, lo+r.Intn(wide))
		if far {
			c = check(at*10000, lo*1000000, c.Hi*1000000+r.Intn(7))
		}
		l = append(l, c)
	}
	return l
}

// P11.4: what slopes there are, by the corners of all clocks.
func TestAudit(t *testing.T) {
	r := rand.New(rand.NewSource(16))
	errors, several := map[api.Errno]int{}, 0
	for range 6000 {
		l := anyChecks(r, r.Intn(8))
		want, e := slowFit(l)
		f, g := stamp.Audit(l)
		if f != want || g != e {
			t.Fatal(l, f, want, g, e)
		}
		errors[e]++
		if e == api.OK && f.Least != f.Most && f.First != f.Last {
			several++
		}
	}
	if errors[api.OK] < 1500 || errors[api.ErrEmpty] < 1000 || errors[api.ErrNone] < 500 || several < 400 {
		t.Error(errors, several)
	}
}

// P11.4: as many checks as there can be, as far away as they can be.
func TestAuditMany(t *testing.T) {
	r := rand.New(rand.NewSource(17))
	errors := map[api.Errno]int{}
	for i := range 24 {
		l := make([]stamp.Check, 40)
		b := r.Intn(1900) - 950
		for k := range l {
			at := r.Intn(100001)
			lo := b*at - r.Intn(1+1000*i)
			l[k] = check(at, max(-stamp.MaxAhead, lo), min(stamp.MaxAhead, lo+1000*i+r.Intn(500)))
		}
		want, e := slowFit(l)
		if f, g := stamp.Audit(l); f != want || g != e {
			t.Fatal(l, f, want, g, e)
		}
		errors[e]++
	}
	if errors[api.OK] < 5 {
		t.Error(errors)
	}
}

// P11.4, example 4; R1: the errors of checks, in their order, and limits.
func TestAuditErrors(t *testing.T) {
	const most = stamp.MaxAhead
	bad := check(-1, 0, 0)
	for i, x := range []struct {
		l []stamp.Check
		f stamp.Fit
		e api.Errno
	}{
		{[]stamp.Check{check(0, 0, 10), check(100, 90, 110), check(200, 250, 300)}, stamp.Fit{}, api.ErrEmpty},
		{[]stamp.Check{check(0, 0, 10), check(100, 90, 110)}, stamp.Fit{Least: ratio(4, 5), Most: ratio(11, 10), First: [2]int{0, 1}, Last: [2]int{0, 1}}, api.OK},
		{[]stamp.Check{check(100, 90, 110), check(0, 0, 10)}, stamp.Fit{Least: ratio(4, 5), Most: ratio(11, 10), First: [2]int{1, 0}, Last: [2]int{1, 0}}, api.OK},
		{[]stamp.Check{check(0, 5, 5), check(10, 5, 5), check(20, 5, 5)}, stamp.Fit{Least: ratio(0, 1), Most: ratio(0, 1), First: [2]int{0, 1}, Last: [2]int{0, 1}}, api.OK},
		{[]stamp.Check{check(20, 5, 5), check(10, 5, 5), check(0, 5, 5)}, stamp.Fit{Least: ratio(0, 1), Most: ratio(0, 1), First: [2]int{1, 0}, Last: [2]int{1, 0}}, api.OK},
		{[]stamp.Check{check(0, 0, 0), check(3, 3, 3), check(3, 3, 3), check(0, 0, 0)}, stamp.Fit{Least: ratio(1, 1), Most: ratio(1, 1), First: [2]int{0, 1}, Last: [2]int{0, 1}}, api.OK},
		{[]stamp.Check{check(0, most, most), check(1, -most, -most)}, stamp.Fit{Least: ratio(-2*most, 1), Most: ratio(-2*most, 1), First: [2]int{0, 1}, Last: [2]int{0, 1}}, api.OK},
		{[]stamp.Check{check(0, -most, most), check(100000, -most, most)}, stamp.Fit{Least: ratio(-2000, 1), Most: ratio(2000, 1), First: [2]int{0, 1}, Last: [2]int{0, 1}}, api.OK},
		{slices.Repeat([]stamp.Check{check(7, 0, 1), check(8, 0, 1)}, 20), stamp.Fit{Least: ratio(-1, 1), Most: ratio(1, 1), First: [2]int{0, 1}, Last: [2]int{0, 1}}, api.OK},
		{slices.Repeat([]stamp.Check{bad}, 41), stamp.Fit{}, api.ErrMany}, {slices.Repeat([]stamp.Check{check(0, 0, 1)}, 41), stamp.Fit{}, api.ErrMany},
		{[]stamp.Check{bad}, stamp.Fit{}, api.ErrRange}, {[]stamp.Check{check(100001, 0, 0)}, stamp.Fit{}, api.ErrRange}, {[]stamp.Check{check(0, 1, 0)}, stamp.Fit{}, api.ErrRange},
		{[]stamp.Check{check(0, -most-1, 0)}, stamp.Fit{}, api.ErrRange}, {[]stamp.Check{check(0, 0, most+1)}, stamp.Fit{}, api.ErrRange}, {[]stamp.Check{check(5, 0, 0), check(5, 1, 1), check(6, 0, 0), bad}, stamp.Fit{}, api.ErrRange},
		{nil, stamp.Fit{}, api.ErrNone}, {[]stamp.Check{check(5, 0, 0)}, stamp.Fit{}, api.ErrNone}, {[]stamp.Check{check(5, 0, 0), check(5, 1, 1)}, stamp.Fit{}, api.ErrNone}, {slices.Repeat([]stamp.Check{check(5, 0, 0)}, 40), stamp.Fit{}, api.ErrNone},
		{[]stamp.Check{check(5, 0, 3), check(5, 4, 7), check(6, 0, 9)}, stamp.Fit{}, api.ErrEmpty}, {[]stamp.Check{check(5, 4, 7), check(6, 0, 9), check(5, 0, 3)}, stamp.Fit{}, api.ErrEmpty},
		{[]stamp.Check{check(5, 0, 4), check(5, 4, 7), check(6, 4, 4)}, stamp.Fit{Least: ratio(0, 1), Most: ratio(0, 1), First: [2]int{0, 2}, Last: [2]int{1, 2}}, api.OK},
		{[]stamp.Check{check(0, 0, 0), check(2, 3, 3), check(4, 6, 6)}, stamp.Fit{Least: ratio(3, 2), Most: ratio(3, 2), First: [2]int{0, 1}, Last: [2]int{0, 1}}, api.OK}, {[]stamp.Check{check(0, 0, 0), check(2, 3, 3), check(4, 7, 7)}, stamp.Fit{}, api.ErrEmpty},
	} {
		if f, e := stamp.Audit(x.l); f != x.f || e != x.e {
			t.Error(i, f, e)
		}
		want := x.e
		if want == api.ErrNone || want == api.ErrEmpty {
			want = api.OK
		}
		if is, e := stamp.Keeps(x.l, ratio(0, 1), ratio(0, 1)); e != want || e != api.OK && is {
			t.Error(i, is, e)
		}
		if a, b, e := stamp.Choose(x.l, 3); e != x.e || e != api.OK && (a != api.Ratio{} || b != api.Ratio{}) {
			t.Error(i, a, b, e)
		}
	}
	for _, n := range far {
		for _, c := range []stamp.Check{check(n, 0, 0), check(0, n, 0), check(0, 0, n), check(0, n, n), check(n, n, n)} {
			if f, e := stamp.Audit([]stamp.Check{check(0, 0, 0), c}); (f != stamp.Fit{}) || e != api.ErrRange {
				t.Error(c, f, e)
			}
		}
	}
}

// P11.4: whether clocks keep checks.
func TestKeeps(t *testing.T) {
	r := rand.New(rand.NewSource(18))
	answers := map[bool]int{}
	for range 3000 {
		l := anyChecks(r, 1+r.Intn(6))
		var clocks []clock
		for range 3 {
			x, y := l[r.Intn(len(l))], l[r.Intn(len(l))]
			if x.At != y.At {
				clocks = append(clocks, through(x.At, x.Lo, y.At, y.Hi))
			}
			clocks = append(clocks, clock{rat(r.Intn(60)-30, 1+r.Intn(5)), rat(r.Intn(20)-10, 1+r.Intn(4))})
		}
		clocks = append(clocks, corners(l)...)
		for _, c := range clocks {
			is, e := stamp.Keeps(l, fraction(c.a), fraction(c.b))
			if is != c.keeps(l) || e != api.OK {
				t.Fatal(l, c.a, c.b, is, e)
			}
			answers[is]++
		}
	}
	if answers[true] < 1000 || answers[false] < 1000 {
		t.Error(answers)
	}
	for _, n := range []int{-8, 3} {
		if is, e := stamp.Keeps(nil, ratio(n, 7), ratio(n, 5)); !is || e != api.OK { // there is no check that it does not keep
			t.Error(n, is, e)
		}
	}
}

// P11.4: clocks with the greatest numbers that are allowed, at the ends of checks.
func TestKeepsFar(t *testing.T) {
	starts := []api.Ratio{ratio(30000000000000, 1), ratio(-30000000000000, 1), ratio(29999999999999, 100000), ratio(-29999999999999, 100000), ratio(30000000000000, 99991), ratio(0, 1), ratio(1, 100000), ratio(-1, 99999), ratio(100000000, 1), ratio(-100000000, 1)}
	slopes := []api.Ratio{ratio(300000000, 1), ratio(-300000000, 1), ratio(299999999, 100000), ratio(-299999999, 100000), ratio(300000000, 99991), ratio(-300000000, 99991), ratio(0, 1), ratio(1, 100000), ratio(-1, 99999)}
	lists := [][]stamp.Check{nil}
	for _, at := range []int{0, 1, 50000, 99999, 100000} {
		for _, x := range [][2]int{{-stamp.MaxAhead, stamp.MaxAhead}, {-stamp.MaxAhead, -stamp.MaxAhead}, {stamp.MaxAhead, stamp.MaxAhead}, {-5, 5}, {0, 0}, {1, stamp.MaxAhead}} {
			lists = append(lists, []stamp.Check{check(at, x[0], x[1])})
		}
	}
	kept := 0
	for _, a := range starts {
		for _, b := range slopes {
			for _, l := range lists {
				is, e := stamp.Keeps(l, a, b)
				if is != (clock{ratOf(a), ratOf(b)}).keeps(l) || e != api.OK {
					t.Error(l, a, b, is, e)
				}
				if is && l != nil {
					kept++
				}
			}
		}
	}
	if kept < 100 {
		t.Error(kept)
	}
}

// P11.4, R1: numbers of clocks that are not allowed.
func TestKeepsErrors(t *testing.T) {
	l, bad := []stamp.Check{check(0, 0, 0)}, []stamp.Check{check(0, 1, 0)}
	zero := ratio(0, 1)
	wrong := []api.Ratio{{}, ratio(0, -1), ratio(0, 2), ratio(2, 4), ratio(1, 0), ratio(1, -1), ratio(-3, -2), ratio(1, 100001), ratio(-7, 1000003)}
	for _, n := range far {
		wrong = append(wrong, ratio(n, 1), ratio(1, n), ratio(n, n), ratio(n, 100000))
	}
	test := func(a, b api.Ratio) {
		t.Helper()
		if is, e := stamp.Keeps(l, a, b); is || e != api.ErrArg {
			t.Error(a, b, is, e)
		}
		if is, e := stamp.Keeps(nil, a, b); is || e != api.ErrArg {
			t.Error(a, b, is, e)
		}
		if is, e := stamp.Keeps(bad, a, b); is || e != api.ErrRange {
			t.Error(a, b, is, e)
		}
		if is, e := stamp.Keeps(make([]stamp.Check, 41), a, b); is || e != api.ErrMany {
			t.Error(a, b, is, e)
		}
	}
	for _, x := range wrong {
		test(x, zero)
		test(zero, x)
		test(x, x)
	}
	for _, n := range []int{1, -1} {
		test(ratio(n*30000000000001, 1), zero)
		test(ratio(n*30000000000001, 100000), zero)
		test(zero, ratio(n*300000001, 1))
		test(zero, ratio(n*300000001, 100000))
		for _, x := range [][2]api.Ratio{{ratio(n*30000000000000, 1), zero}, {zero, ratio(n*300000000, 1)}, {ratio(n, 100000), ratio(n, 100000)}} {
			if is, e := stamp.Keeps(nil, x[0], x[1]); !is || e != api.OK {
				t.Error(x, is, e)
			}
		}
	}
}

// P11.4, P11.5: the clocks that are chosen keep the checks, their slope is the
// nearest one, and no clock with it has a lesser start.
func TestChoose(t *testing.T) {
	r := rand.New(rand.NewSource(19))
	kinds := map[int]int{}
	for i := range 6000 {
		l := anyChecks(r, r.Intn(8))
		rate := r.Intn(13) - 6
		if i%10 == 0 {
			rate = r.Intn(2000001) - 1000000
		}
		a, b, e := stamp.Choose(l, rate)
		f, want := stamp.Audit(l)
		if e != want {
			t.Fatal(l, rate, e, want)
		}
		if e != api.OK {
			if a != (api.Ratio{}) || b != (api.Ratio{}) {
				t.Fatal(l, rate, a, b)
			}
			continue
		}
		c := clock{ratOf(a), ratOf(b)}
		if is, e := stamp.Keeps(l, a, b); !is || e != api.OK || !c.keeps(l) {
			t.Fatal(l, rate, a, b, is, e)
		}
		if !slices.ContainsFunc(l, func(x stamp.Check) bool { return c.ahead(x.At).Cmp(whole(x.Lo)) == 0 }) {
			t.Fatal(l, rate, a, b)
		}
		near, kind := whole(rate), 0
		if least := ratOf(f.Least); near.Cmp(least) < 0 {
			near, kind = least, -1
		} else if most := ratOf(f.Most); near.Cmp(most) > 0 {
			near, kind = most, 1
		}
		if c.b.Cmp(near) != 0 {
			t.Fatal(l, rate, a, b, f)
		}
		kinds[kind]++
	}
	if kinds[-1] < 500 || kinds[0] < 150 || kinds[1] < 500 {
		t.Error(kinds)
	}
}

// P11.4, R1: the ends of the rates, and the order of errors.
func TestChooseErrors(t *testing.T) {
	good := []stamp.Check{check(0, -100000000, 100000000), check(50, -100000000, 100000000)}
	fast := []stamp.Check{check(99999, -100000000, -100000000), check(100000, 100000000, 100000000)}
	bad, same, empty := []stamp.Check{check(0, 1, 0)}, []stamp.Check{check(0, 0, 0)}, []stamp.Check{check(0, 0, 0), check(0, 1, 1), check(1, 0, 0)}
	zero := api.Ratio{}
	for i, x := range []struct {
		l    []stamp.Check
		rate int
		a, b api.Ratio
		e    api.Errno
	}{
		{good, 1000000, ratio(-100000000, 1), ratio(1000000, 1), api.OK}, {good, -1000000, ratio(-50000000, 1), ratio(-1000000, 1), api.OK},
		{good, 0, ratio(-100000000, 1), ratio(0, 1), api.OK},
		{fast, 0, ratio(-19999900000000, 1), ratio(200000000, 1), api.OK},
		{[]stamp.Check{check(0, 0, 0), check(100000, 1, 1)}, 5, ratio(0, 1), ratio(1, 100000), api.OK}, {[]stamp.Check{check(1, 0, 0), check(100000, 1, 1)}, 5, ratio(-1, 99999), ratio(1, 99999), api.OK},
		{good, 1000001, zero, zero, api.ErrRange}, {good, -1000001, zero, zero, api.ErrRange},
		{same, 1000001, zero, zero, api.ErrRange}, {empty, 1000001, zero, zero, api.ErrRange}, {nil, 1000001, zero, zero, api.ErrRange}, {bad, 0, zero, zero, api.ErrRange}, {bad, 1000001, zero, zero, api.ErrRange},
		{make([]stamp.Check, 41), 1000001, zero, zero, api.ErrMany}, {make([]stamp.Check, 41), 0, zero, zero, api.ErrMany},
		{same, 0, zero, zero, api.ErrNone}, {nil, 1000000, zero, zero, api.ErrNone}, {empty, 0, zero, zero, api.ErrEmpty}, {empty[:2], 0, zero, zero, api.ErrNone},
	} {
		if a, b, e := stamp.Choose(x.l, x.rate); a != x.a || b != x.b || e != x.e {
			t.Error(i, a, b, e)
		}
		if is, e := stamp.Keeps(x.l, x.a, x.b); x.e == api.OK && (!is || e != api.OK) {
			t.Error(i, is, e)
		}
	}
	for _, n := range far {
		if a, b, e := stamp.Choose(good, n); a != zero || b != zero || e != api.ErrRange {
			t.Error(n, a, b, e)
		}
	}
}

// isKept reports whether there is a clock that keeps some checks.
func isKept(l []stamp.Check) bool {
	_, e := stamp.Audit(l)
	if e != api.ErrNone {
		return e == api.OK
	}
	lo, hi := -stamp.MaxAhead, stamp.MaxAhead
	for _, c := range l {
		lo, hi = max(lo, c.Lo), min(hi, c.Hi)
	}
	return lo <= hi
}

// P11.5: a set of checks is kept just if each four of them are.
func TestEachFour(t *testing.T) {
	r := rand.New(rand.NewSource(20))
	kept := map[bool]int{}
	for range 1500 {
		l := anyChecks(r, 5+r.Intn(3))
		all := true
		for set := range 1 << len(l) {
			var some []stamp.Check
			for i, c := range l {
				if set>>i&1 == 1 {
					some = append(some, c)
				}
			}
			all = all && (len(some) != 4 || isKept(some))
		}
		if is := isKept(l); is != all {
			t.Fatal(l, is, all)
		}
		kept[all]++
	}
	if kept[true] < 200 || kept[false] < 200 {
		t.Error(kept)
	}
}
