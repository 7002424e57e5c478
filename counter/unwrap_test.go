package counter_test

import (
	"math"
	"math/big"
	"math/rand"
	"testing"

	"meridian/api"
	"meridian/counter"
)

// P2.2: unwrapped values, against differences wrapped one by one.
func TestUnwrap(t *testing.T) {
	r := rand.New(rand.NewSource(5))
	for range 500 {
		c := counter.Counter{Factor: 1, Grid: 1, Range: 2 * (10 + r.Intn(50)), Dead: 1}
		l := make([]int, r.Intn(30))
		for i := range l {
			l[i] = r.Intn(c.Range) - c.Range/2
		}
		u, e := counter.Unwrap(c, l, 1)
		if e != api.OK || len(u) != len(l) {
			t.Fatal(c, l, u, e)
		}
		for i := range u {
			if i == 0 && u[0] != l[0] || i > 0 && u[i]-u[i-1] != slowWrap(c, whole(l[i]-l[i-1])) {
				t.Fatal(c, l, u)
			}
		}
	}
}

// P2.2, example 4, and the longest way that values can go.
func TestUnwrapFar(t *testing.T) {
	for i, x := range []struct{ l, want []int }{
		{[]int{400, -500, -400}, []int{400, 500, 600}},
		{[]int{-400, 400, 300}, []int{-400, -600, -700}},
		{[]int{0, -500, 0}, []int{0, -500, -1000}}, // a half turn is one down
		{[]int{37}, []int{37}},
		{nil, nil},
		{[]int{}, nil},
	} {
		u, e := counter.Unwrap(chapter(), x.l, 300)
		if e != api.OK || len(u) != len(x.want) {
			t.Error(i, u, e)
			continue
		}
		for k := range u {
			if u[k] != x.want[k] {
				t.Error(i, u)
			}
		}
	}
	c := counter.Counter{Factor: 1, Grid: 1, Range: counter.MaxRange, Dead: 1}
	l := make([]int, counter.MaxSeries)
	sum := new(big.Int)
	for i := range l {
		l[i] = []int{0, -c.Range / 2}[i%2]
		if i > 0 {
			sum.Sub(sum, whole(c.Range/2))
		}
	}
	if u, e := counter.Unwrap(c, l, 0); e != api.OK || u[len(u)-1] != int(sum.Int64()) {
		t.Error(e, sum)
	}
}

// P2.2: the errors of Unwrap in their order.
func TestUnwrapErrors(t *testing.T) {
	long := make([]int, counter.MaxSeries+1)
	long[3] = 500
	steep := chapter()
	steep.Factor, steep.Jitter, steep.Range = 20, 30, 1200 // 20 most + 160 < 600
	for i, x := range []struct {
		c    counter.Counter
		l    []int
		most int
		want api.Errno
	}{
		{chapter(), long, phase + 1, api.ErrMany},
		{chapter(), long[:2000], phase + 1, api.ErrRange},
		{chapter(), long[4:], 399, api.OK},
		{chapter(), []int{0, 500}, -1, api.ErrRange},
		{chapter(), []int{-501}, 0, api.ErrRange},
		{chapter(), []int{math.MinInt}, 0, api.ErrRange},
		{chapter(), []int{math.MaxInt}, 0, api.ErrRange},
		{chapter(), []int{-500, 499}, 0, api.OK},
		{chapter(), nil, phase + 1, api.ErrRange},
		{chapter(), nil, math.MaxInt, api.ErrRange},
		{chapter(), nil, phase, api.ErrJump},
		{chapter(), nil, -1, api.ErrJump},
		{chapter(), nil, math.MinInt, api.ErrJump},
		{chapter(), nil, 399, api.OK},
		{chapter(), nil, 400, api.ErrJump},
		{steep, nil, 21, api.OK},
		{steep, nil, 22, api.ErrJump},
		{steep, nil, phase, api.ErrJump},
		{counter.Counter{Factor: 1, Grid: 3, Range: 12, Dead: 1}, nil, 3, api.OK}, // the error is 1
		{counter.Counter{Factor: 1, Grid: 3, Range: 12, Dead: 1}, nil, 4, api.ErrJump},
	} {
		if u, e := counter.Unwrap(x.c, x.l, x.most); e != x.want || e != api.OK && len(u) != 0 {
			t.Error(i, len(u), e)
		}
	}
}

// P2.5: unwrapped values differ as the true differences do, up to 2 e.
func TestUnwrappedFollowsTruth(t *testing.T) {
	r := rand.New(rand.NewSource(6))
	for range 500 {
		c := small(r)
		off := c.Jitter + c.Grid/2
		most := r.Intn(50)
		c.Range = 2 * c.Grid * ((c.Factor*most+2*off)/c.Grid + 1)
		seed := r.Uint64()
		truth := make([]int, 40)
		shown := make([]int, len(truth))
		for i := range truth {
			if i > 0 {
				truth[i] = truth[i-1] + []int{most, -most, r.Intn(2*most+1) - most}[r.Intn(3)]
			}
			shown[i], _ = counter.Show(c, seed, i*c.Dead, truth[i])
		}
		u, e := counter.Unwrap(c, shown, most)
		if e != api.OK {
			t.Fatal(c, most, e)
		}
		for i := range u {
			if far := u[i] - u[0] - c.Factor*(truth[i]-truth[0]); far > 2*off || far < -2*off {
				t.Fatal(c, most, i, far)
			}
		}
	}
}
