package steer_test

import (
	"math"
	"math/big"
	"math/rand"
	"slices"
	"testing"

	"meridian/api"
	"meridian/steer"
)

func made(t *testing.T, p steer.Plan, unit, r int) *steer.Keeper {
	t.Helper()
	k, e := steer.NewKeeper(p, unit, r)
	if e != api.OK || k == nil {
		t.Fatal(p, unit, r, e)
	}
	return k
}

// drive is Drive, which has to have no error.
func drive(t *testing.T, k *steer.Keeper, lo, hi int) int {
	t.Helper()
	q, e := k.Drive(api.Span{Lo: lo, Hi: hi})
	if e != api.OK {
		t.Fatal(lo, hi, e)
	}
	return q
}

func logOf(t *testing.T, k *steer.Keeper) []steer.Entry {
	t.Helper()
	l, e := k.Log()
	if e != api.OK {
		t.Fatal(e)
	}
	return l
}

// P6.3: there is a keeper just if a state with its rate is safe.
func TestNewKeeper(t *testing.T) {
	some, none := 0, 0
	for p := range small {
		set := safe(t, p)
		for r := -p.Rate; r <= p.Rate; r++ {
			want := api.ErrNone
			for s := range set {
				if s.Rate == r {
					want = api.OK
				}
			}
			k, e := steer.NewKeeper(p, 100, r)
			if e != want || (k != nil) != (want == api.OK) {
				t.Fatal(p, r, e)
			}
			if want == api.ErrNone && len(set) > 0 {
				none++
			} else if want == api.OK {
				some++
				if l := logOf(t, k); len(l) != 0 {
					t.Fatal(p, r, l)
				}
			}
		}
	}
	if some < 100 || none < 10 {
		t.Error("too few plans that matter", some, none)
	}
}

// P6.3: the errors of NewKeeper in their order.
func TestNewKeeperErrors(t *testing.T) {
	p := steer.Plan{Limit: 1, Rate: 3, Slew: 1} // no state with the rate 3 is safe
	for i, c := range []struct {
		p       steer.Plan
		unit, r int
		want    api.Errno
	}{
		{steer.Plan{Limit: 1, Rate: 3}, 0, 4, api.ErrSteer},
		{p, 0, 3, api.ErrRange}, {p, -1, 0, api.ErrRange}, {p, 1000000000001, 3, api.ErrRange}, {p, math.MinInt, 0, api.ErrRange}, {p, math.MaxInt, 0, api.ErrRange},
		{p, 1, 4, api.ErrRange}, {p, 1, -4, api.ErrRange}, {p, 1, math.MinInt, api.ErrRange}, {p, 1, math.MaxInt, api.ErrRange},
		{p, 1, 3, api.ErrNone}, {p, 1, -3, api.ErrNone}, {steer.Plan{Limit: 2, Rate: 1, Slew: 1, Noise: 2}, 1, 0, api.ErrNone},
		{p, 1, 2, api.OK}, {p, 1000000000000, -2, api.OK},
	} {
		if k, e := steer.NewKeeper(c.p, c.unit, c.r); e != c.want || (k == nil) != (e != api.OK) {
			t.Error(i, k, e)
		}
	}
}

// units follows the chapter's words: the middle of a span, rounded towards 0, in
// units, rounded to the nearest, a half away from 0.
func units(s api.Span, unit int) int {
	sum := new(big.Int).Add(big.NewInt(int64(s.Lo)), big.NewInt(int64(s.Hi)))
	middle := new(big.Int).Quo(sum, big.NewInt(2))
	twice := new(big.Rat).SetFrac(new(big.Int).Mul(middle, big.NewInt(2)), big.NewInt(int64(unit)))
	twice.Add(twice, big.NewRat(int64(twice.Sign()), 1))
	half := new(big.Int).Quo(twice.Num(), twice.Denom())
	return int(half.Quo(half, big.NewInt(2)).Int64())
}

// P6.3: Drive against the chapter's words.
func TestDrive(t *testing.T) {
	r := rand.New(rand.NewSource(5))
	driven, refused := 0, 0
	for p := range small {
		l := chart(t, p)
		unit := []int{1, 2, 3, 7, 10, 1000, steer.MaxUnit - 1, steer.MaxUnit}[r.Intn(8)]
		rate := around(r, p.Rate)
		k, e := steer.NewKeeper(p, unit, rate)
		if e != api.OK {
			continue
		}
		var log []steer.Entry
		for range 40 {
			middle := around(r, (p.Limit+1)*unit)
			wide := r.Intn(2 * unit)
			s := api.Span{Lo: middle - wide, Hi: middle + wide + r.Intn(2)}
			e := units(s, unit)
			q, x := k.Drive(s)
			at, out := steer.Index(p, e, rate)
			if out != api.OK || l[at] >= 1000 {
				refused++
				if q != 0 || x != api.ErrState {
					t.Fatal(p, unit, s, e, rate, q, x)
				}
				continue
			}
			if q != l[at] || x != api.OK {
				t.Fatal(p, unit, s, e, rate, q, x)
			}
			driven++
			rate = q
			log = append(log, steer.Entry{Error: e, Rate: q})
		}
		if got := logOf(t, k); !slices.Equal(got, log) {
			t.Fatal(p, got, log)
		}
	}
	if driven < 1000 || refused < 1000 {
		t.Error("too few spans that matter", driven, refused)
	}
}

// P6.3: how an error in femtoseconds is rounded to units.
func TestDriveRounds(t *testing.T) {
	for _, c := range []struct{ unit, lo, hi, want int }{
		{100, 149, 149, 1}, {100, 150, 150, 2}, {100, -149, -149, -1}, {100, -150, -150, -2}, {100, 49, 49, 0}, {100, -49, -49, 0}, {100, 50, 50, 1}, {100, -50, -50, -1},
		{100, 149, 150, 1}, {100, -150, -149, -1}, {100, 149, 151, 2}, {100, -151, -149, -2}, // the middle is rounded towards 0
		{3, 1, 1, 0}, {3, 2, 2, 1}, {3, -1, -1, 0}, {3, -2, -2, -1}, {3, 4, 4, 1}, {3, 5, 5, 2}, {1, 39, 40, 39}, {1, -40, -39, -39}, {1, -1, 0, 0}, {1, 0, 1, 0},
		{100, -1000000000000000, 1000000000000000, 0}, {1, -1000000000000000, 1000000000000000, 0}, {1, -999999999999999, 1000000000000000, 0}, {1, -999999999999998, 1000000000000000, 1},
		{steer.MaxUnit, 40499999999999, 40499999999999, 40}, {steer.MaxUnit, -40499999999999, -40499999999999, -40}, {steer.MaxUnit, 499999999999, 499999999999, 0}, {steer.MaxUnit, 500000000000, 500000000000, 1},
	} {
		k := made(t, steer.Plan{Limit: 40, Rate: 12, Slew: 24, Noise: 12}, c.unit, 0)
		drive(t, k, c.lo, c.hi)
		if l := logOf(t, k); l[0].Error != c.want {
			t.Error(c, l)
		}
	}
}

// P6.3: the errors of Drive in their order, with which nothing changes.
func TestDriveErrors(t *testing.T) {
	p := steer.Plan{Limit: 2, Rate: 1, Slew: 1, Noise: 1} // (2, 1) and (-2, -1) are not safe
	k := made(t, p, 10, 1)
	for i, c := range []struct {
		lo, hi int
		want   api.Errno
	}{
		{1, 0, api.ErrEmpty}, {0, -1, api.ErrEmpty}, {math.MaxInt, math.MinInt, api.ErrEmpty}, {math.MinInt, math.MaxInt, api.ErrEmpty},
		{-1000000000000001, 0, api.ErrEmpty}, {0, 1000000000000001, api.ErrEmpty}, {-1000000000000001, -1000000000000001, api.ErrEmpty}, {math.MaxInt, math.MaxInt, api.ErrEmpty}, {math.MinInt, math.MinInt, api.ErrEmpty},
		{25, 25, api.ErrState}, {-25, -25, api.ErrState}, {1000000000000000, 1000000000000000, api.ErrState}, {-1000000000000000, -1000000000000000, api.ErrState},
		{15, 15, api.ErrState}, {24, 24, api.ErrState},
	} {
		if q, e := k.Drive(api.Span{Lo: c.lo, Hi: c.hi}); q != 0 || e != c.want {
			t.Error(i, q, e)
		}
	}
	if l := logOf(t, k); len(l) != 0 {
		t.Error(l)
	}
	// The rate is 1 still: from -2 it is kept, to 0 from -1.
	if q := drive(t, k, -24, -24); q != 1 {
		t.Error(q)
	}
	if q := drive(t, k, -10, -10); q != 0 {
		t.Error(q)
	}
	if q := drive(t, k, 24, 24); q != -1 {
		t.Error(q)
	}
	if _, e := k.Drive(api.Span{Lo: -20, Hi: -20}); e != api.ErrState {
		t.Error(e)
	}
}

// P6.3: a log has up to 5000 entries.
func TestDriveMany(t *testing.T) {
	k := made(t, steer.Plan{Limit: 2, Rate: 1, Slew: 2, Noise: 1}, 1, 0)
	for i := range steer.MaxLog {
		drive(t, k, i%5-2, i%5-2)
	}
	if _, e := k.Drive(api.Span{Lo: 1, Hi: 0}); e != api.ErrEmpty {
		t.Error(e)
	}
	for range 2 {
		for _, far := range []int{0, 3} {
			if q, e := k.Drive(api.Span{Lo: far, Hi: far}); q != 0 || e != api.ErrMany {
				t.Error(q, e)
			}
		}
	}
	l := logOf(t, k)
	if len(l) != steer.MaxLog || l[0] != (steer.Entry{Error: -2, Rate: 1}) || l[4999] != (steer.Entry{Error: 2, Rate: -1}) {
		t.Error(len(l), l[0], l[len(l)-1])
	}
}

// P6.3: methods of what NewKeeper did not return.
func TestNoKeeper(t *testing.T) {
	other := *made(t, steer.Plan{Limit: 2, Rate: 1, Slew: 2, Noise: 1}, 1, 0)
	for i, k := range []*steer.Keeper{nil, {}, new(steer.Keeper), &other} {
		if q, e := k.Drive(api.Span{}); q != 0 || e != api.ErrNil {
			t.Error(i, q, e)
		}
		if q, e := k.Drive(api.Span{Lo: 1}); q != 0 || e != api.ErrNil {
			t.Error(i, q, e)
		}
		if l, e := k.Log(); len(l) != 0 || e != api.ErrNil {
			t.Error(i, l, e)
		}
	}
}

// P6.3: what one keeper does is nothing to another one.
func TestTwoKeepers(t *testing.T) {
	p := steer.Plan{Limit: 2, Rate: 1, Slew: 1, Noise: 1}
	a, b := made(t, p, 1, 0), made(t, p, 1, 0)
	drive(t, a, 2, 2)
	drive(t, a, 1, 1)
	if l := logOf(t, b); len(l) != 0 {
		t.Error(l)
	}
	if q := drive(t, b, -2, -2); q != 1 {
		t.Error(q)
	}
	if l := logOf(t, a); !slices.Equal(l, []steer.Entry{{Error: 2, Rate: -1}, {Error: 1, Rate: 0}}) {
		t.Error(l)
	}
}
